/- fields: Tokens; the reference's Tokens. fields: Tokens. What the walk of FieldsLists calls, in one form; the append of a slice of fields that may be nil. -/
import Derived.Test.YtneagccakoakpaaDoorFldT
import Derived.Test.YtneagccakoakpaaDoorListR
import Derived.Test.YtneagccakoakpaaDoorAwakeO
import Derived.Maps.AppendAt
import Derived.Test.YtneagccakoakpaaDoorLawFldD
import Derived.Laws.AppendOwnNone
namespace Go.Proofs.YtneagccakoakpaaDoor
open Go.RowKit

theorem parts_mem (c : UInt8) : ∀ (l p : List UInt8), p ∈ parts c l → p.length ≤ l.length
  | [], p, h => by
    simp [parts] at h
    subst h; simp
  | b :: r, p, h => by
    unfold parts at h
    split at h
    · rcases List.mem_cons.1 h with rfl | h
      · simp
      · have := parts_mem c r p h
        rw [List.length_cons]; omega
    · split at h
      · rename_i q ps e
        rcases List.mem_cons.1 h with rfl | h
        · have := parts_mem c r q (by rw [e]; exact List.mem_cons_self)
          rw [List.length_cons, List.length_cons]; omega
        · have := parts_mem c r p (by rw [e]; exact List.mem_cons_of_mem _ h)
          rw [List.length_cons]; omega
      · rename_i e
        exact absurd e (parts_ne c r)
theorem keepP_mem {ps : List (List UInt8)} {p : List UInt8} (h : p ∈ keepP ps) : ∃ q ∈ ps, p.length ≤ q.length := by
  unfold keepP at h
  obtain ⟨q, hq, rfl⟩ := List.mem_map.1 (List.mem_filter.1 h).1
  exact ⟨q, hq, trimB_length q⟩
theorem sumS_mem {xs : List ByteArray} {x : ByteArray} (h : x ∈ xs) : x.size + 1 ≤ sumS xs := by
  induction xs with
  | nil => cases h
  | cons a r ih =>
    have e : sumS (a :: r) = a.size + 1 + sumS r := by simp [sumS]
    rw [e]
    rcases List.mem_cons.1 h with rfl | h
    · omega
    · have := ih h; omega
theorem listP_mem {xs : List ByteArray} {l : List UInt8} (h : l ∈ listP xs) : l.length ≤ sumS xs := by
  unfold listP accL at h
  obtain ⟨ls, hls, hl⟩ := List.mem_flatten.1 h
  obtain ⟨x, hx, rfl⟩ := List.mem_map.1 hls
  obtain ⟨q, hq, hlq⟩ := keepP_mem hl
  have h1 := parts_mem 44 _ _ hq
  have h2 := sumS_mem (List.mem_of_mem_take hx)
  have h3 := Lib.size_eq x
  omega
theorem listP_len (xs : List ByteArray) : (listP xs).length ≤ sumS xs := by
  have := accL_bound xs xs.length
  rwa [List.take_of_length_le (Nat.le_refl _)] at this
/-- Texts read out of a row of the call's own. -/
theorem own_isStrsB {w : World} {base : Nat} {v : Value} {ys : List ByteArray} (h : w.ownsRow base 9 1 v ys.length (ys.map Value.string)) : ∃ a c, v = .slice a ys.length c ∧ IsStrs w a c ys ∧ ∀ A, a = some A → base ≤ A.block := by
  have h0 := h
  obtain ⟨_, ⟨rfl, h1⟩ | ⟨g, cap, cur, rfl, hg, _⟩⟩ := h
  · exact ⟨none, 0, by rw [h1], isStrs_of_row (by rw [h1] at h0; rw [h1]; exact h0) rfl, fun A e => by cases e⟩
  · exact ⟨some ⟨g, 0, none⟩, cap, rfl, isStrs_of_row h0 rfl, fun A e => by cases e; exact hg⟩
theorem IsStrs.grown {w w' : World} {row : Option Nat} {a : Option Addr} {c : Nat} {xs : List ByteArray} (h : IsStrs w a c xs) (hg : w.grownBy w' row) (hr : ∀ A, a = some A → row ≠ some A.block) : IsStrs w' a c xs := by
  obtain h | ⟨bk, o, rfl, hlt, hc, hcell⟩ := h
  · exact .inl h
  · refine .inr ⟨bk, o, rfl, Nat.lt_of_lt_of_le hlt hg.size, hc, fun j x hx => ?_⟩
    have hb := hg.block bk hlt (fun e => hr _ rfl e.symm)
    rw [← hcell j x hx]
    unfold World.cell?
    rw [hb]
theorem valsOf_bs (T : List (List UInt8)) : valsOf T = (bsOf T).map Value.string := by
  unfold valsOf bsOf
  rw [List.map_map]
  rfl
theorem lowR (l : List UInt8) (hl : l.length ≤ 1000000000) (w : World) :
    Calls Tryd.prog 21 #[.string (bs l)] w fun e w' => e = .returned (.string (bs (l.map lowC))) ∧ Below w.heap.size w w' :=
  lower21 (bs l) (by rw [bs_size]; omega) w
theorem lowP (l : List UInt8) (hl : l.length ≤ 1000000000) (w : World) :
    Calls Tryd.prog 20 #[.string (bs l)] w fun e w' => e = .returned (.string (bs (l.map lowC))) ∧ Below w.heap.size w w' :=
  lower20 (bs l) (by rw [bs_size]; omega) w
theorem rall41s (a : Option Addr) (c : Nat) (fs : List Fld) (x : ByteArray) (hfl : fs.length ≤ 1000000) (hok : ∀ f ∈ fs, FldOk f) (hx : x.size ≤ 4000000000) (w : World) (hf : IsFlds w a c fs) :
    Calls Tryd.prog 41 #[.slice a fs.length c, .string x] w fun e w' => ∃ b d, e = .returned (.slice b (allB x fs).length d) ∧ IsStrs w' b d (allB x fs) ∧ Below w.heap.size w w' := by
  refine (rall41 a c fs x hfl hok hx w hf).mono ?_
  rintro e w' ⟨u, rfl, ho, hb⟩
  obtain ⟨b, d, rfl, hs, _⟩ := own_isStrsB ho
  exact ⟨b, d, rfl, hs, hb⟩
theorem all44s (a : Option Addr) (c : Nat) (fs : List Fld) (x : ByteArray) (hfl : fs.length ≤ 1000000) (hok : ∀ f ∈ fs, FldOk f) (w : World) (hf : IsFlds w a c fs) :
    Calls Tryd.prog 44 #[.slice a fs.length c, .string x] w fun e w' => ∃ b d, e = .returned (.slice b (allB x fs).length d) ∧ IsStrs w' b d (allB x fs) ∧ Below w.heap.size w w' := by
  refine (all44 a c fs x hfl hok w hf).mono ?_
  rintro e w' ⟨u, rfl, ho, hb⟩
  obtain ⟨b, d, rfl, hs, _⟩ := own_isStrsB ho
  exact ⟨b, d, rfl, hs, hb⟩
theorem list34b (a : Option Addr) (c : Nat) (xs : List ByteArray) (hsum : sumS xs ≤ 1000000000) (w : World) (hx : IsStrs w a c xs) :
    Calls Tryd.prog 34 #[.slice a xs.length c] w fun e w' => ∃ b d, e = .returned (.slice b (listP xs).length d) ∧ IsStrs w' b d (bsOf (listP xs)) ∧ (∀ A, b = some A → w.heap.size ≤ A.block) ∧ Below w.heap.size w w' := by
  refine (list34 a c xs hsum w hx).mono ?_
  rintro e w' ⟨u, rfl, ho, hb⟩
  rw [valsOf_bs, ← bsOf_length] at ho
  obtain ⟨b, d, rfl, hs, hA⟩ := own_isStrsB ho
  exact ⟨b, d, by rw [bsOf_length], hs, hA, hb⟩
/-- The tokens of the values of a name. -/
def tokF (x : ByteArray) (fs : List Fld) : List (List UInt8) := (listP (allB x fs)).map (List.map lowC)
theorem tokF_step {T : List (List UInt8)} {j : Nat} (hj : j < T.length) : valsOf ((T.map (List.map lowC)).take (j + 1)) = valsOf ((T.map (List.map lowC)).take j) ++ [.string (bs (T[j].map lowC))] := by
  unfold valsOf
  rw [List.take_add_one, List.getElem?_eq_getElem (by rw [List.length_map]; exact hj), Option.toList_some, List.map_append, List.getElem_map]
  rfl
set_option maxHeartbeats 4000000 in
set_option maxRecDepth 100000 in
theorem rtokens53 (a : Option Addr) (c : Nat) (fs : List Fld) (x : ByteArray) (hfl : fs.length ≤ 1000000) (hok : ∀ f ∈ fs, FldOk f) (hx : x.size ≤ 4000000000) (hsum : sumS (allB x fs) ≤ 1000000000) (w : World) (hf : IsFlds w a c fs) :
    Calls Tryd.prog 53 #[.slice a fs.length c, .string x] w fun e w' => ∃ u, e = .returned u ∧ w'.ownsRow w.heap.size 9 1 u (tokF x fs).length (valsOf (tokF x fs)) ∧ Below w.heap.size w w' := by
  obtain ⟨i0, hi, hz0, hz1, hz2⟩ := info_parts info9
  have L0 := Lib.hid (below_alloc w (.cells #[] 9))
  have O0 := Lib.hid (World.ownsRow_lit (base := w.heap.size) (size := 1) (e := 9) w #[] 0 (Nat.le_refl _) (by decide) (by simp))
  have HAL := Lib.hid (fun W h => rall41s a c fs x hfl hok hx W h)
  have HLI := Lib.hid (fun b d W h => list34b b d (allB x fs) hsum W h)
  have HTL : Hid (∀ l ∈ listP (allB x fs), l.length ≤ 1000000000) := fun l h => Nat.le_trans (listP_mem h) hsum
  have hTN : (listP (allB x fs)).length ≤ 1000000000 := Nat.le_trans (listP_len _) hsum
  unfold tokF
  generalize listP (allB x fs) = T at *
  have F0 := Lib.hid (hf.below L0.out)
  have hsz0 : (w.alloc (.cells #[] 9)).heap.size = w.heap.size + 1 := World.size_alloc _ _
  clear hf hok hsum
  go_enter Tryd.func53, Tryd.ntmps53
  go_wp2_with fail
  refine (HAL.out _ F0.out).mono ?_
  rintro e w1 ⟨b1, d1, rfl, hs1, hb1⟩
  have O1 := Lib.hid (own_below O0.out hb1)
  have L1 := Lib.hid (L0.out.trans (hb1.mono L0.out.size))
  have S1 := Lib.hid hs1
  have hg1 := hb1.size
  clear hs1 hb1 O0 L0 F0 HAL
  go_wp2_with fail
  refine (HLI.out _ _ w1 S1.out).mono ?_
  rintro e w2 ⟨b2, d2, rfl, hs2, hA2, hb2⟩
  have O2 := Lib.hid (own_below O1.out hb2)
  have L2 := Lib.hid (L1.out.trans (hb2.mono L1.out.size))
  have S2 := Lib.hid hs2
  have HA2 : Hid (∀ A, b2 = some A → w.heap.size + 1 ≤ A.block) := fun A e => by have := hA2 A e; omega
  clear hs2 hb2 hA2 O1 L1 S1 HLI
  go_wp2_with fail
  go_loopw [5, 14] (fun v i wr => ∃ j : Nat, j ≤ T.length ∧ i = .int .i64 (j : Int) ∧ Hid (wr.ownsRow w.heap.size 9 1 v j (valsOf ((T.map (List.map lowC)).take j))) ∧ Hid (∀ A, b2 = some A → v.ownBlock ≠ some A.block) ∧ Hid (IsStrs wr b2 d2 (bsOf T)) ∧ Hid (Below w.heap.size w wr)) (fun _ i _ => T.length - (intOf i).toNat)
  case atStart =>
    refine ⟨0, Nat.zero_le _, rfl, ?_, fun A e => ?_, S2, L2⟩
    · exact O2.out
    · have := HA2.out A e
      simp [Value.ownBlock]; omega
  case round =>
    clear O2 L2 S2
    obtain ⟨j, hj, rfl, ho, hd, hs, hb⟩ := hrel
    by_cases hlt : j < T.length
    · obtain h0 | ⟨bk, o, rfl, hbk, hc, hcell⟩ := hs.out
      · have := bsOf_length T; rw [h0] at this; simp at this; omega
      have cj := hcell j (bs T[j]) (by simp [bsOf, hlt, bs])
      have hst := tokF_step hlt
      have HLW := Lib.hid (fun W (_ : True) => lowR T[j] (HTL.out _ (List.getElem_mem hlt)) W)
      have HST := Lib.hid hst
      generalize bs (T[j].map lowC) = M at *
      generalize bs T[j] = Y at *
      clear hcell hst
      have j1 : (j : Int) < T.length := by omega
      have hgr := hb.out.size
      go_wp2_with fail
      refine (HLW.out wr trivial).mono ?_
      rintro e wb ⟨rfl, hbb⟩
      have B2 := Lib.hid (hb.out.trans (hbb.mono hb.out.size))
      have O2 := Lib.hid (own_below ho.out hbb)
      have S2 := Lib.hid (hs.out.below hbb)
      have hbk2 : bk < wb.heap.size := Nat.lt_of_lt_of_le hbk hbb.size
      clear hbb ho hs hb
      have HO2 : Hid ((wb.alloc (.cells #[.string M] 9)).ownsRow w.heap.size 9 1 _ j _) := O2.out.alloc _
      have hb2 : Hid (Below w.heap.size w (wb.alloc (.cells #[.string M] 9))) := B2.out.alloc B2.out.size _
      have hs2 : Hid (IsStrs (wb.alloc (.cells #[.string M] 9)) (some ⟨bk, o, none⟩) d2 (bsOf T)) := S2.out.below (below_alloc wb _)
      have hbz := B2.out.size
      have hsz : (wb.alloc (.cells #[.string M] 9)).heap.size = wb.heap.size + 1 := World.size_alloc _ _
      clear O2 B2 S2
      go_wp2_with (at_builtin; refine wpList_append_own_at _ rfl _ _ 36 rfl w.heap.size 9 i0 (.string ⟨#[]⟩) 1 16 Tryd.underlying36 hi hz0 hz1 hz2 rfl (by decide) _ _ _ rfl HO2.out ⟨wb.heap.size, 0, none⟩ 1 1 [.string M] rfl rfl (cell_one_new _ _ _) (by intro u hu; simp at hu; subst hu; rfl) (by unfold maxLen; omega) (by omega) (by simp; omega) ?_)
      intro v' w2 hown' hgrow _ hat
      have hb3 : Hid (Below w.heap.size w w2) := hb2.out.grown hgrow hb2.out.size (fun k hk => (HO2.out.lt k hk).1)
      have hs3 : Hid (IsStrs w2 (some ⟨bk, o, none⟩) d2 (bsOf T)) := hs2.out.grown hgrow (fun A e => hd.out A e)
      have hd3 : Hid (∀ A, some (⟨bk, o, none⟩ : Addr) = some A → v'.ownBlock ≠ some A.block) := fun A e => by
        rcases hat with h | h
        · rw [h]; exact hd.out A e
        · rw [h]
          obtain rfl := Option.some.inj e
          simp
          omega
      rw [← HST.out] at hown'
      have HO3 := Lib.hid hown'
      clear hown' hgrow hb2 HO2 hs2 hat
      go_wp2_with fail
      go_roundw
      case rel => exact ⟨j + 1, hlt, by go_num, HO3, hd3, hs3, hb3⟩
      case measure => simp [intOf]; omega
    · obtain rfl : j = T.length := by omega
      have ho2 := ho.out
      rw [List.take_of_length_le (by simp)] at ho2
      rw [show T.length = (T.map (List.map lowC)).length by simp] at ho2
      have HO := Lib.hid ho2
      clear ho ho2
      go_wp2_with fail
      go_ret
      exact ⟨_, rfl, HO.out, hb.out⟩
end Go.Proofs.YtneagccakoakpaaDoor
namespace Go.Proofs.YtneagccakoakpaaDoor
open Go.RowKit

/-- The tokens while they are made small. -/
def mixT (T : List (List UInt8)) (j : Nat) : List (List UInt8) := (T.take j).map (List.map lowC) ++ T.drop j
theorem mixT_len (T : List (List UInt8)) (j : Nat) (hj : j ≤ T.length) : (mixT T j).length = T.length := by
  unfold mixT
  simp
  omega
theorem mixT_at {T : List (List UInt8)} {j : Nat} (hj : j < T.length) : (valsOf (mixT T j))[j]? = some (.string (bs T[j])) := by
  unfold valsOf mixT
  rw [List.getElem?_map, List.getElem?_append_right (by simp; omega), List.length_map, List.length_take, Nat.min_eq_left (by omega), Nat.sub_self, List.getElem?_drop, Nat.add_zero, List.getElem?_eq_getElem hj]
  rfl
theorem mixT_step {T : List (List UInt8)} {j : Nat} (hj : j < T.length) : (valsOf (mixT T j)).set j (.string (bs (T[j].map lowC))) = valsOf (mixT T (j + 1)) := by
  have e : T.drop j = T[j] :: T.drop (j + 1) := (List.getElem_cons_drop hj).symm
  have h1 : (mixT T j).set j (T[j].map lowC) = mixT T (j + 1) := by
    unfold mixT
    rw [List.set_append_right _ _ (by simp; omega), List.length_map, List.length_take, Nat.min_eq_left (by omega), Nat.sub_self, e, List.set_cons_zero, List.take_add_one, List.getElem?_eq_getElem hj, Option.toList_some, List.map_append, List.append_assoc]
    rfl
  rw [← h1]
  unfold valsOf
  rw [List.map_set]
  rfl
set_option maxHeartbeats 4000000 in
set_option maxRecDepth 100000 in
theorem tokens52 (a : Option Addr) (c : Nat) (fs : List Fld) (x : ByteArray) (hfl : fs.length ≤ 1000000) (hok : ∀ f ∈ fs, FldOk f) (hsum : sumS (allB x fs) ≤ 1000000000) (w : World) (hM : MaxL w) (hf : IsFlds w a c fs) :
    Calls Tryd.prog 52 #[.slice a fs.length c, .string x] w fun e w' => ∃ u, e = .returned u ∧ w'.ownsRow w.heap.size 9 1 u (tokF x fs).length (valsOf (tokF x fs)) ∧ Below w.heap.size w w' := by
  have HAL := Lib.hid (all44s a c fs x hfl hok w hf)
  have HLI := Lib.hid (fun b d W h hM => callsIn_wide.1 (list33 b d (allB x fs) hsum W h hM))
  have HTL : Hid (∀ l ∈ listP (allB x fs), l.length ≤ 1000000000) := fun l h => Nat.le_trans (listP_mem h) hsum
  have hTN : (listP (allB x fs)).length ≤ 1000000000 := Nat.le_trans (listP_len _) hsum
  have HM := Lib.hid hM
  unfold tokF
  generalize listP (allB x fs) = T at *
  clear hf hok hsum hM
  go_enter Tryd.func52, Tryd.ntmps52
  go_wp2_with fail
  refine HAL.out.mono ?_
  rintro e w1 ⟨b1, d1, rfl, hs1, hb1⟩
  have S1 := Lib.hid hs1
  have HM1 := Lib.hid (HM.out.below hb1)
  have L1 := Lib.hid hb1
  clear hs1 hb1 HAL HM
  go_wp2_with fail
  refine (HLI.out _ _ w1 S1.out HM1.out).mono ?_
  rintro e w2 ⟨u2, rfl, ho2, hb2⟩
  have L2 := Lib.hid (L1.out.trans (hb2.mono L1.out.size))
  have ho3 := own_mono ho2 L1.out.size
  clear ho2 hb2 L1 S1 HM1 HLI
  have h00 := ho3
  obtain ⟨_, ⟨rfl, h1⟩ | ⟨g, cap, cur, rfl, hg, _, hcap, _⟩⟩ := ho3
  · obtain rfl : T = [] := List.eq_nil_of_length_eq_zero h1
    have H0 := Lib.hid h00
    clear h00 h1
    go_wp2_with fail
    go_loopw [14] (fun i wr => i = .int .i64 0 ∧ wr = w2) (fun _ _ => 0)
    case atStart => exact ⟨rfl, rfl⟩
    case round =>
      obtain ⟨rfl, rfl⟩ := hrel
      go_wp2_with fail
      go_ret
      exact ⟨_, rfl, H0.out, L2.out⟩
  · have O2 : Hid (w2.ownsRow w.heap.size 9 1 (.slice (some ⟨g, 0, none⟩) T.length cap) T.length (valsOf (mixT T 0))) := by
      show World.ownsRow _ _ _ _ _ _ _
      unfold mixT
      simpa using h00
    clear h00
    go_wp2_with fail
    go_loopw [14] (fun i wr => ∃ j : Nat, j ≤ T.length ∧ i = .int .i64 (j : Int) ∧ Hid (wr.ownsRow w.heap.size 9 1 (.slice (some ⟨g, 0, none⟩) T.length cap) T.length (valsOf (mixT T j))) ∧ Hid (Below w.heap.size w wr)) (fun i _ => T.length - (intOf i).toNat)
    case atStart => exact ⟨0, Nat.zero_le _, rfl, O2, L2⟩
    case round =>
      clear O2 L2
      obtain ⟨j, hj, rfl, ho, hb⟩ := hrel
      by_cases hlt : j < T.length
      · have cj := (ho.out.cellAt j (by omega)).trans (mixT_at hlt)
        have HLW := Lib.hid (fun W (_ : True) => lowP T[j] (HTL.out _ (List.getElem_mem hlt)) W)
        have HST := Lib.hid (mixT_step hlt)
        have hat := mixT_at hlt
        generalize bs (T[j].map lowC) = M at *
        generalize bs T[j] = Y at *
        have HAT := Lib.hid hat
        have j1 : (j : Int) < T.length := by omega
        clear hat
        go_wp2_with fail
        refine (HLW.out wr trivial).mono ?_
        rintro e wb ⟨rfl, hbb⟩
        have B2 := Lib.hid (hb.out.trans (hbb.mono hb.out.size))
        have O2 := Lib.hid (own_below ho.out hbb)
        have ck := (O2.out.cellAt j (by omega)).trans HAT.out
        have cf := O2.out.frozenAt j
        have hst := O2.out.stored j (.string M)
        have B3 := Lib.hid (B2.out.setCell (p := ⟨g, j, none⟩) hg (.string M))
        have O3 : Hid ((wb.setCell ⟨g, j, none⟩ (.string M)).ownsRow w.heap.size 9 1 (.slice (some ⟨g, 0, none⟩) T.length cap) T.length (valsOf (mixT T (j + 1)))) := by
          rw [← HST.out]; exact hst.1
        clear hbb ho hb hst O2 B2 cj HLW HST HAT
        go_wp2_with fail
        go_roundw
        case rel => exact ⟨j + 1, hlt, by go_num, O3, B3⟩
        case measure => simp [intOf]; omega
      · obtain rfl : j = T.length := by omega
        have ho2 := ho.out
        have e : mixT T T.length = T.map (List.map lowC) := by unfold mixT; simp
        rw [e] at ho2
        have HO : Hid (wr.ownsRow w.heap.size 9 1 (.slice (some ⟨g, 0, none⟩) T.length cap) (T.map (List.map lowC)).length (valsOf (T.map (List.map lowC)))) := by rw [List.length_map]; exact ho2
        clear ho ho2 e
        go_wp2_with fail
        go_ret
        exact ⟨_, rfl, HO.out, hb.out⟩
end Go.Proofs.YtneagccakoakpaaDoor
namespace Go.Proofs.YtneagccakoakpaaDoor
open Go.RowKit

theorem wpList_wanted {P : Program} {w : World} {ops : Array Oper} {rest : List Oper} {o : Oper} {a : Act} {Q : Exit → Act → World → Prop} (j d : Nat) (hg : o.guard = some (j, true)) (hj : (ops[j]?).bind (·.dst) = some d) (hd : a.tmps[d]? = some (.bool true))
    (h : ∀ K : Act → World → Prop, (∀ a w, wpList P ops Q rest a w → K a w) → o.wp P a w K Q) : wpList P ops Q (o :: rest) a w :=
  wpList_step fun K hK => by
    simp only [Region.wanted, hg, yielded, hj, Option.bind_some, hd, beq_self_eq_true, if_true]
    exact h K hK
theorem wpList_append_flds {w : World} {ops : Array Oper} {rest : List Oper} {o : Oper} {a : Act} {Q : Exit → Act → World → Prop} (gj gd : Nat) (hgd : o.guard = some (gj, true)) (hgj : (ops[gj]?).bind (·.dst) = some gd) (hgv : a.tmps[gd]? = some (.bool true)) (s x : Operand)
    (ho : o.op = .call { callee := .builtin .append, args := #[s, x], argTypes := #[49, 49] })
    (base : Nat) (v : Value) (n : Nat) (xs : List Value) (hs : a.eval s = v) (hown : w.ownsRow base 45 2 v n xs)
    (b : Option Addr) (d : Nat) (fs : List Fld) (hx : a.eval x = .slice b fs.length d) (hbn : b = none → d = 0 ∧ fs = []) (hf : IsFlds w b d fs) (hn : n + fs.length ≤ 1000000) (hbase : base ≤ w.heap.size)
    (h : ∀ v' w', w'.ownsRow base 45 2 v' (n + fs.length) (xs ++ cellsF fs) → w.grownBy w' v.ownBlock → wpList Tryd.prog ops Q rest (a.put o.dst v') w') : wpList Tryd.prog ops Q (o :: rest) a w := by
  obtain ⟨i0, hi, hz0, hz1, hz2⟩ := info_parts infoRef
  refine wpList_wanted gj gd hgd hgj hgv fun K hK => ?_
  cases b with
  | none =>
    obtain ⟨rfl, rfl⟩ := hbn rfl
    have hrun := run_append_owned_none (P := Tryd.prog) (w := w) base 49 o.type 45 i0 2 Tryd.underlying49 hi v n xs hown
    unfold Oper.wp
    rw [List.length_nil] at hx
    simp [execOp, ho, resolve, invoke, builtin, hs, hx, hrun, Result.andThen]
    refine hK _ _ (h v w ?_ ⟨rfl, rfl, rfl, Nat.le_refl _, fun _ _ _ => rfl⟩)
    simpa [cellsF] using hown
  | some ad =>
    refine wp_append_own w s x 49 ho base 45 i0 (.agg #[.string ⟨#[]⟩, .string ⟨#[]⟩]) 2 32 Tryd.underlying49 hi hz0 hz1 hz2 rfl (by decide) v n xs hs hown ad fs.length d (cellsF fs) hx (cellsF_length fs) ?_ (cellsF_one fs) (by unfold maxLen; omega) (by omega) hbase (fun v' w' h1 h2 _ => hK _ _ (h v' w' h1 h2))
    intro k u hu
    obtain h0 | ⟨bk, o', ha, hlt, hc, hcell⟩ := hf
    · subst h0; simp [cellsF] at hu
    · cases ha
      exact isFlds_cells hcell k u hu
theorem own40m (a : Option Addr) (c : Nat) (fs : List Fld) (hfl : fs.length ≤ 1000000) (w : World) (hf : IsFlds w a c fs) :
    Calls Tryd.prog 40 #[.slice a fs.length c] w fun e w' => ∃ b d, e = .returned (.slice b fs.length d) ∧ d ≤ 9223372036854775807 ∧ (b = none → d = 0 ∧ fs = []) ∧ IsFlds w' b d fs ∧ Below w.heap.size w w' := by
  refine (own40 a c fs hfl w hf).mono ?_
  rintro e w' ⟨u, rfl, ho, hb⟩
  have ho2 := ho
  obtain ⟨b, d, rfl, h1, h2⟩ := own_isFldsT ho
  refine ⟨b, d, rfl, ?_, h1, h2, hb⟩
  obtain ⟨_, ⟨h3, _⟩ | ⟨g, cap, cur, h3, _, _, _, hcm, _⟩⟩ := ho2
  · injection h3 with e1 e2 e3; omega
  · injection h3 with e1 e2 e3; unfold maxLen at hcm; omega
theorem setF_len (n v : List UInt8) (fs : List Fld) : (setF n v fs).length ≤ fs.length + 1 := by
  have h := outR_len (bs n) (n, v) fs fs.length (Nat.le_refl _)
  rw [List.take_of_length_le (Nat.le_refl _)] at h
  rw [← outR_set]
  split
  · omega
  · rw [List.length_append, List.length_singleton]; omega
theorem set46s (a : Option Addr) (c : Nat) (fs : List Fld) (n v : List UInt8) (hfl : fs.length ≤ 100000000) (hcm : c ≤ 9223372036854775807) (ha : a = none → c = 0 ∧ fs = []) (hok : ∀ f ∈ fs, FldOk f) (w : World) (hf : IsFlds w a c fs) :
    Calls Tryd.prog 46 #[.slice a fs.length c, .string (bs n), .string (bs v)] w fun e w' => ∃ b d, e = .returned (.slice b (setF n v fs).length d) ∧ IsFlds w' b d (setF n v fs) ∧ Below w.heap.size w w' := by
  refine (set46 a c fs n v hfl hcm ha hok w hf).mono ?_
  rintro e w' ⟨u, rfl, ho, hb⟩
  obtain ⟨b, d, rfl, _, h2⟩ := own_isFldsT ho
  exact ⟨b, d, rfl, h2, hb⟩
theorem rset47s (a : Option Addr) (c : Nat) (fs : List Fld) (n v : List UInt8) (hfl : fs.length ≤ 1000000) (hok : ∀ f ∈ fs, FldOk f) (hn : n.length ≤ 4000000000) (w : World) (hf : IsFlds w a c fs) :
    Calls Tryd.prog 47 #[.slice a fs.length c, .string (bs n), .string (bs v)] w fun e w' => ∃ b d, e = .returned (.slice b (setF n v fs).length d) ∧ IsFlds w' b d (setF n v fs) ∧ Below w.heap.size w w' := by
  refine (rset47 a c fs n v hfl hok hn w hf).mono ?_
  rintro e w' ⟨u, rfl, ho, hb⟩
  obtain ⟨b, d, rfl, _, h2⟩ := own_isFldsT ho
  exact ⟨b, d, rfl, h2, hb⟩
theorem add48s (a : Option Addr) (c : Nat) (fs : List Fld) (n v : List UInt8) (hfl : fs.length ≤ 100000000) (ha : a = none → c = 0 ∧ fs = []) (w : World) (hf : IsFlds w a c fs) :
    Calls Tryd.prog 48 #[.slice a fs.length c, .string (bs n), .string (bs v)] w fun e w' => ∃ b d, e = .returned (.slice b (fs ++ [(n, v)]).length d) ∧ IsFlds w' b d (fs ++ [(n, v)]) ∧ Below w.heap.size w w' := by
  refine (add48 a c fs n v hfl ha w hf).mono ?_
  rintro e w' ⟨u, rfl, ho, hb⟩
  obtain ⟨b, d, rfl, _, h2⟩ := own_isFldsT ho
  exact ⟨b, d, rfl, h2, hb⟩
theorem tokens52s (a : Option Addr) (c : Nat) (fs : List Fld) (x : ByteArray) (hfl : fs.length ≤ 1000000) (hok : ∀ f ∈ fs, FldOk f) (hsum : sumS (allB x fs) ≤ 1000000000) (w : World) (hM : MaxL w) (hf : IsFlds w a c fs) :
    Calls Tryd.prog 52 #[.slice a fs.length c, .string x] w fun e w' => ∃ b d, e = .returned (.slice b (bsOf (tokF x fs)).length d) ∧ IsStrs w' b d (bsOf (tokF x fs)) ∧ Below w.heap.size w w' := by
  refine (tokens52 a c fs x hfl hok hsum w hM hf).mono ?_
  rintro e w' ⟨u, rfl, ho, hb⟩
  rw [valsOf_bs, ← bsOf_length] at ho
  obtain ⟨b, d, rfl, hs, _⟩ := own_isStrsB ho
  exact ⟨b, d, rfl, hs, hb⟩
theorem rtokens53s (a : Option Addr) (c : Nat) (fs : List Fld) (x : ByteArray) (hfl : fs.length ≤ 1000000) (hok : ∀ f ∈ fs, FldOk f) (hx : x.size ≤ 4000000000) (hsum : sumS (allB x fs) ≤ 1000000000) (w : World) (hf : IsFlds w a c fs) :
    Calls Tryd.prog 53 #[.slice a fs.length c, .string x] w fun e w' => ∃ b d, e = .returned (.slice b (bsOf (tokF x fs)).length d) ∧ IsStrs w' b d (bsOf (tokF x fs)) ∧ Below w.heap.size w w' := by
  refine (rtokens53 a c fs x hfl hok hx hsum w hf).mono ?_
  rintro e w' ⟨u, rfl, ho, hb⟩
  rw [valsOf_bs, ← bsOf_length] at ho
  obtain ⟨b, d, rfl, hs, _⟩ := own_isStrsB ho
  exact ⟨b, d, rfl, hs, hb⟩
theorem size51s (a : Option Addr) (c : Nat) (fs : List Fld) (hfl : fs.length ≤ 1000000000) (hok : ∀ f ∈ fs, FldOk f) (hsum : (textL fs).length ≤ 100000000000) (w : World) (hf : IsFlds w a c fs) :
    Calls Tryd.prog 51 #[.slice a fs.length c] w fun e w' => e = .returned (.int .i64 ((bs (textL fs)).size : Int)) ∧ Below w.heap.size w w' := by
  rw [bs_size]
  exact size51 a c fs hfl hok hsum w hf
theorem fewF_small (fs : List Fld) (n : Nat) : ∀ f ∈ fewF fs n, f.1.length ≤ 20 ∧ f.2.length ≤ 40 := by
  intro f hf
  unfold fewF at hf
  obtain ⟨g, _, rfl⟩ := List.mem_map.1 hf
  exact ⟨by simp; omega, by simp; omega⟩
theorem textL_small : ∀ (fs : List Fld), (∀ f ∈ fs, f.1.length ≤ 20 ∧ f.2.length ≤ 40) → (textL fs).length ≤ fs.length * 64
  | [], _ => by simp [textL]
  | f :: r, h => by
    have h1 := h f List.mem_cons_self
    have h2 := textL_small r (fun g hg => h g (List.mem_cons_of_mem _ hg))
    have e : (textL (f :: r)).length = (lineL f).length + (textL r).length := by simp [textL]
    have e2 : (lineL f).length = f.1.length + 2 + f.2.length + 2 := by simp [lineL]; omega
    rw [e, e2, List.length_cons]
    omega
theorem sumS_small : ∀ (ys : List ByteArray) (m : Nat), (∀ y ∈ ys, y.size ≤ m) → sumS ys ≤ ys.length * (m + 1)
  | [], m, _ => by simp [sumS]
  | a :: r, m, h => by
    have h1 := sumS_small r m (fun y hy => h y (List.mem_cons_of_mem _ hy))
    have h2 := h a List.mem_cons_self
    have h3 : sumS (a :: r) = a.size + 1 + sumS r := by simp [sumS]
    rw [h3, List.length_cons, Nat.add_mul, Nat.one_mul]
    omega
theorem allB_small {x : ByteArray} {fs : List Fld} (h : ∀ f ∈ fs, f.1.length ≤ 20 ∧ f.2.length ≤ 40) : ∀ y ∈ allB x fs, y.size ≤ 40 := by
  intro y hy
  unfold allB at hy
  obtain ⟨f, hf, rfl⟩ := List.mem_map.1 hy
  rw [bs_size]
  exact (h f (List.mem_filter.1 hf).1).2
end Go.Proofs.YtneagccakoakpaaDoor
