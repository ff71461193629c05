/- Packed: FldV, RwM, RwA, RwB, Keep, RwD. -/
import Derived.Maps.AppendAt
import Derived.Laws.AppendOwnNone
import Derived.Deep.Cut
import Derived.Test.YtbbphklhnngjmaaGreatDoorR03
import Derived.Test.YtbbphklhnngjmaaGreatDoorR05
import Derived.Test.YtbbphklhnngjmaaGreatDoorR07
import Derived.Test.YtbbphklhnngjmaaGreatDoorR08
import Derived.Test.YtbbphklhnngjmaaGreatDoorR10
/- fields: Tokens; the reference's Tokens. fields: Tokens. What the walk of FieldsLists calls, in one form; the append of a slice of fields that may be nil. -/
namespace Go.Proofs.YtbbphklhnngjmaaGreatDoor
open Go.RowKit

theorem parts_mem (c : UInt8) : ∀ (l p : List UInt8), p ∈ parts c l → p.length ≤ l.length
  | [], p, h => by
    simp [parts] at h
    subst h; simp
  | b :: r, p, h => by
    unfold parts at h
    split at h
    · rcases List.mem_cons.1 h with rfl | h
      · simp
      · have := parts_mem c r p h
        rw [List.length_cons]; omega
    · split at h
      · rename_i q ps e
        rcases List.mem_cons.1 h with rfl | h
        · have := parts_mem c r q (by rw [e]; exact List.mem_cons_self)
          rw [List.length_cons, List.length_cons]; omega
        · have := parts_mem c r p (by rw [e]; exact List.mem_cons_of_mem _ h)
          rw [List.length_cons]; omega
      · rename_i e
        exact absurd e (parts_ne c r)
theorem keepP_mem {ps : List (List UInt8)} {p : List UInt8} (h : p ∈ keepP ps) : ∃ q ∈ ps, p.length ≤ q.length := by
  unfold keepP at h
  obtain ⟨q, hq, rfl⟩ := List.mem_map.1 (List.mem_filter.1 h).1
  exact ⟨q, hq, trimB_length q⟩
theorem sumS_mem {xs : List ByteArray} {x : ByteArray} (h : x ∈ xs) : x.size + 1 ≤ sumS xs := by
  induction xs with
  | nil => cases h
  | cons a r ih =>
    have e : sumS (a :: r) = a.size + 1 + sumS r := by simp [sumS]
    rw [e]
    rcases List.mem_cons.1 h with rfl | h
    · omega
    · have := ih h; omega
theorem listP_mem {xs : List ByteArray} {l : List UInt8} (h : l ∈ listP xs) : l.length ≤ sumS xs := by
  unfold listP accL at h
  obtain ⟨ls, hls, hl⟩ := List.mem_flatten.1 h
  obtain ⟨x, hx, rfl⟩ := List.mem_map.1 hls
  obtain ⟨q, hq, hlq⟩ := keepP_mem hl
  have h1 := parts_mem 44 _ _ hq
  have h2 := sumS_mem (List.mem_of_mem_take hx)
  have h3 := Lib.size_eq x
  omega
theorem listP_len (xs : List ByteArray) : (listP xs).length ≤ sumS xs := by
  have := accL_bound xs xs.length
  rwa [List.take_of_length_le (Nat.le_refl _)] at this
/-- Texts read out of a row of the call's own. -/
theorem own_isStrsB {w : World} {base : Nat} {v : Value} {ys : List ByteArray} (h : w.ownsRow base 9 1 v ys.length (ys.map Value.string)) : ∃ a c, v = .slice a ys.length c ∧ IsStrs w a c ys ∧ ∀ A, a = some A → base ≤ A.block := by
  have h0 := h
  obtain ⟨_, ⟨rfl, h1⟩ | ⟨g, cap, cur, rfl, hg, _⟩⟩ := h
  · exact ⟨none, 0, by rw [h1], isStrs_of_row (by rw [h1] at h0; rw [h1]; exact h0) rfl, fun A e => by cases e⟩
  · exact ⟨some ⟨g, 0, none⟩, cap, rfl, isStrs_of_row h0 rfl, fun A e => by cases e; exact hg⟩
theorem IsStrs.grown {w w' : World} {row : Option Nat} {a : Option Addr} {c : Nat} {xs : List ByteArray} (h : IsStrs w a c xs) (hg : w.grownBy w' row) (hr : ∀ A, a = some A → row ≠ some A.block) : IsStrs w' a c xs := by
  obtain h | ⟨bk, o, rfl, hlt, hc, hcell⟩ := h
  · exact .inl h
  · refine .inr ⟨bk, o, rfl, Nat.lt_of_lt_of_le hlt hg.size, hc, fun j x hx => ?_⟩
    have hb := hg.block bk hlt (fun e => hr _ rfl e.symm)
    rw [← hcell j x hx]
    unfold World.cell?
    rw [hb]
theorem valsOf_bs (T : List (List UInt8)) : valsOf T = (bsOf T).map Value.string := by
  unfold valsOf bsOf
  rw [List.map_map]
  rfl
theorem lowR (l : List UInt8) (hl : l.length ≤ 1000000000) (w : World) :
    Calls Tryz.prog 24 #[.string (bs l)] w fun e w' => e = .returned (.string (bs (l.map lowC))) ∧ Below w.heap.size w w' :=
  lower21 (bs l) (by rw [bs_size]; omega) w
theorem lowP (l : List UInt8) (hl : l.length ≤ 1000000000) (w : World) :
    Calls Tryz.prog 121 #[.string (bs l)] w fun e w' => e = .returned (.string (bs (l.map lowC))) ∧ Below w.heap.size w w' :=
  lower20 (bs l) (by rw [bs_size]; omega) w
theorem rall41s (a : Option Addr) (c : Nat) (fs : List Fld) (x : ByteArray) (hfl : fs.length ≤ 1000000) (hok : ∀ f ∈ fs, FldOk f) (hx : x.size ≤ 4000000000) (w : World) (hf : IsFlds w a c fs) :
    Calls Tryz.prog 49 #[.slice a fs.length c, .string x] w fun e w' => ∃ b d, e = .returned (.slice b (allB x fs).length d) ∧ IsStrs w' b d (allB x fs) ∧ Below w.heap.size w w' := by
  refine (rall41 a c fs x hfl hok hx w hf).mono ?_
  rintro e w' ⟨u, rfl, ho, hb⟩
  obtain ⟨b, d, rfl, hs, _⟩ := own_isStrsB ho
  exact ⟨b, d, rfl, hs, hb⟩
theorem all44s (a : Option Addr) (c : Nat) (fs : List Fld) (x : ByteArray) (hfl : fs.length ≤ 1000000) (hok : ∀ f ∈ fs, FldOk f) (w : World) (hf : IsFlds w a c fs) :
    Calls Tryz.prog 43 #[.slice a fs.length c, .string x] w fun e w' => ∃ b d, e = .returned (.slice b (allB x fs).length d) ∧ IsStrs w' b d (allB x fs) ∧ Below w.heap.size w w' := by
  refine (all44 a c fs x hfl hok w hf).mono ?_
  rintro e w' ⟨u, rfl, ho, hb⟩
  obtain ⟨b, d, rfl, hs, _⟩ := own_isStrsB ho
  exact ⟨b, d, rfl, hs, hb⟩
theorem list34b (a : Option Addr) (c : Nat) (xs : List ByteArray) (hsum : sumS xs ≤ 1000000000) (w : World) (hx : IsStrs w a c xs) :
    Calls Tryz.prog 110 #[.slice a xs.length c] w fun e w' => ∃ b d, e = .returned (.slice b (listP xs).length d) ∧ IsStrs w' b d (bsOf (listP xs)) ∧ (∀ A, b = some A → w.heap.size ≤ A.block) ∧ Below w.heap.size w w' := by
  refine (list34 a c xs hsum w hx).mono ?_
  rintro e w' ⟨u, rfl, ho, hb⟩
  rw [valsOf_bs, ← bsOf_length] at ho
  obtain ⟨b, d, rfl, hs, hA⟩ := own_isStrsB ho
  exact ⟨b, d, by rw [bsOf_length], hs, hA, hb⟩
/-- The tokens of the values of a name. -/
def tokF (x : ByteArray) (fs : List Fld) : List (List UInt8) := (listP (allB x fs)).map (List.map lowC)
theorem tokF_step {T : List (List UInt8)} {j : Nat} (hj : j < T.length) : valsOf ((T.map (List.map lowC)).take (j + 1)) = valsOf ((T.map (List.map lowC)).take j) ++ [.string (bs (T[j].map lowC))] := by
  unfold valsOf
  rw [List.take_add_one, List.getElem?_eq_getElem (by rw [List.length_map]; exact hj), Option.toList_some, List.map_append, List.getElem_map]
  rfl
set_option maxHeartbeats 4000000 in
set_option maxRecDepth 100000 in
theorem rtokens53 (a : Option Addr) (c : Nat) (fs : List Fld) (x : ByteArray) (hfl : fs.length ≤ 1000000) (hok : ∀ f ∈ fs, FldOk f) (hx : x.size ≤ 4000000000) (hsum : sumS (allB x fs) ≤ 1000000000) (w : World) (hf : IsFlds w a c fs) :
    Calls Tryz.prog 84 #[.slice a fs.length c, .string x] w fun e w' => ∃ u, e = .returned u ∧ w'.ownsRow w.heap.size 9 1 u (tokF x fs).length (valsOf (tokF x fs)) ∧ Below w.heap.size w w' := by
  obtain ⟨i0, hi, hz0, hz1, hz2⟩ := info_parts info9
  have L0 := Lib.hid (below_alloc w (.cells #[] 9))
  have O0 := Lib.hid (World.ownsRow_lit (base := w.heap.size) (size := 1) (e := 9) w #[] 0 (Nat.le_refl _) (by decide) (by simp))
  have HAL := Lib.hid (fun W h => rall41s a c fs x hfl hok hx W h)
  have HLI := Lib.hid (fun b d W h => list34b b d (allB x fs) hsum W h)
  have HTL : Hid (∀ l ∈ listP (allB x fs), l.length ≤ 1000000000) := fun l h => Nat.le_trans (listP_mem h) hsum
  have hTN : (listP (allB x fs)).length ≤ 1000000000 := Nat.le_trans (listP_len _) hsum
  unfold tokF
  generalize listP (allB x fs) = T at *
  have F0 := Lib.hid (hf.below L0.out)
  have hsz0 : (w.alloc (.cells #[] 9)).heap.size = w.heap.size + 1 := World.size_alloc _ _
  clear hf hok hsum
  go_enter Tryz.func84, Tryz.ntmps84
  go_wp2_with fail
  refine (HAL.out _ F0.out).mono ?_
  rintro e w1 ⟨b1, d1, rfl, hs1, hb1⟩
  have O1 := Lib.hid (own_below O0.out hb1)
  have L1 := Lib.hid (L0.out.trans (hb1.mono L0.out.size))
  have S1 := Lib.hid hs1
  have hg1 := hb1.size
  clear hs1 hb1 O0 L0 F0 HAL
  go_wp2_with fail
  refine (HLI.out _ _ w1 S1.out).mono ?_
  rintro e w2 ⟨b2, d2, rfl, hs2, hA2, hb2⟩
  have O2 := Lib.hid (own_below O1.out hb2)
  have L2 := Lib.hid (L1.out.trans (hb2.mono L1.out.size))
  have S2 := Lib.hid hs2
  have HA2 : Hid (∀ A, b2 = some A → w.heap.size + 1 ≤ A.block) := fun A e => by have := hA2 A e; omega
  clear hs2 hb2 hA2 O1 L1 S1 HLI
  go_wp2_with fail
  go_loopw [5, 14] (fun v i wr => ∃ j : Nat, j ≤ T.length ∧ i = .int .i64 (j : Int) ∧ Hid (wr.ownsRow w.heap.size 9 1 v j (valsOf ((T.map (List.map lowC)).take j))) ∧ Hid (∀ A, b2 = some A → v.ownBlock ≠ some A.block) ∧ Hid (IsStrs wr b2 d2 (bsOf T)) ∧ Hid (Below w.heap.size w wr)) (fun _ i _ => T.length - (intOf i).toNat)
  case atStart =>
    refine ⟨0, Nat.zero_le _, rfl, ?_, fun A e => ?_, S2, L2⟩
    · exact O2.out
    · have := HA2.out A e
      simp [Value.ownBlock]; omega
  case round =>
    clear O2 L2 S2
    obtain ⟨j, hj, rfl, ho, hd, hs, hb⟩ := hrel
    by_cases hlt : j < T.length
    · obtain h0 | ⟨bk, o, rfl, hbk, hc, hcell⟩ := hs.out
      · have := bsOf_length T; rw [h0] at this; simp at this; omega
      have cj := hcell j (bs T[j]) (by simp [bsOf, hlt, bs])
      have hst := tokF_step hlt
      have HLW := Lib.hid (fun W (_ : True) => lowR T[j] (HTL.out _ (List.getElem_mem hlt)) W)
      have HST := Lib.hid hst
      generalize bs (T[j].map lowC) = M at *
      generalize bs T[j] = Y at *
      clear hcell hst
      have j1 : (j : Int) < T.length := by omega
      have hgr := hb.out.size
      go_wp2_with fail
      refine (HLW.out wr trivial).mono ?_
      rintro e wb ⟨rfl, hbb⟩
      have B2 := Lib.hid (hb.out.trans (hbb.mono hb.out.size))
      have O2 := Lib.hid (own_below ho.out hbb)
      have S2 := Lib.hid (hs.out.below hbb)
      have hbk2 : bk < wb.heap.size := Nat.lt_of_lt_of_le hbk hbb.size
      clear hbb ho hs hb
      have HO2 : Hid ((wb.alloc (.cells #[.string M] 9)).ownsRow w.heap.size 9 1 _ j _) := O2.out.alloc _
      have hb2 : Hid (Below w.heap.size w (wb.alloc (.cells #[.string M] 9))) := B2.out.alloc B2.out.size _
      have hs2 : Hid (IsStrs (wb.alloc (.cells #[.string M] 9)) (some ⟨bk, o, none⟩) d2 (bsOf T)) := S2.out.below (below_alloc wb _)
      have hbz := B2.out.size
      have hsz : (wb.alloc (.cells #[.string M] 9)).heap.size = wb.heap.size + 1 := World.size_alloc _ _
      clear O2 B2 S2
      go_wp2_with (at_builtin; refine wpList_append_own_at _ rfl _ _ 88 rfl w.heap.size 9 i0 (.string ⟨#[]⟩) 1 16 Tryz.underlying88 hi hz0 hz1 hz2 rfl (by decide) _ _ _ rfl HO2.out ⟨wb.heap.size, 0, none⟩ 1 1 [.string M] rfl rfl (cell_one_new _ _ _) (by intro u hu; simp at hu; subst hu; rfl) (by unfold maxLen; omega) (by omega) (by simp; omega) ?_)
      intro v' w2 hown' hgrow _ hat
      have hb3 : Hid (Below w.heap.size w w2) := hb2.out.grown hgrow hb2.out.size (fun k hk => (HO2.out.lt k hk).1)
      have hs3 : Hid (IsStrs w2 (some ⟨bk, o, none⟩) d2 (bsOf T)) := hs2.out.grown hgrow (fun A e => hd.out A e)
      have hd3 : Hid (∀ A, some (⟨bk, o, none⟩ : Addr) = some A → v'.ownBlock ≠ some A.block) := fun A e => by
        rcases hat with h | h
        · rw [h]; exact hd.out A e
        · rw [h]
          obtain rfl := Option.some.inj e
          simp
          omega
      rw [← HST.out] at hown'
      have HO3 := Lib.hid hown'
      clear hown' hgrow hb2 HO2 hs2 hat
      go_wp2_with fail
      go_roundw
      case rel => exact ⟨j + 1, hlt, by go_num, HO3, hd3, hs3, hb3⟩
      case measure => simp [intOf]; omega
    · obtain rfl : j = T.length := by omega
      have ho2 := ho.out
      rw [List.take_of_length_le (by simp)] at ho2
      rw [show T.length = (T.map (List.map lowC)).length by simp] at ho2
      have HO := Lib.hid ho2
      clear ho ho2
      go_wp2_with fail
      go_ret
      exact ⟨_, rfl, HO.out, hb.out⟩
end Go.Proofs.YtbbphklhnngjmaaGreatDoor
namespace Go.Proofs.YtbbphklhnngjmaaGreatDoor
open Go.RowKit

/-- The tokens while they are made small. -/
def mixT (T : List (List UInt8)) (j : Nat) : List (List UInt8) := (T.take j).map (List.map lowC) ++ T.drop j
theorem mixT_len (T : List (List UInt8)) (j : Nat) (hj : j ≤ T.length) : (mixT T j).length = T.length := by
  unfold mixT
  simp
  omega
theorem mixT_at {T : List (List UInt8)} {j : Nat} (hj : j < T.length) : (valsOf (mixT T j))[j]? = some (.string (bs T[j])) := by
  unfold valsOf mixT
  rw [List.getElem?_map, List.getElem?_append_right (by simp; omega), List.length_map, List.length_take, Nat.min_eq_left (by omega), Nat.sub_self, List.getElem?_drop, Nat.add_zero, List.getElem?_eq_getElem hj]
  rfl
theorem mixT_step {T : List (List UInt8)} {j : Nat} (hj : j < T.length) : (valsOf (mixT T j)).set j (.string (bs (T[j].map lowC))) = valsOf (mixT T (j + 1)) := by
  have e : T.drop j = T[j] :: T.drop (j + 1) := (List.getElem_cons_drop hj).symm
  have h1 : (mixT T j).set j (T[j].map lowC) = mixT T (j + 1) := by
    unfold mixT
    rw [List.set_append_right _ _ (by simp; omega), List.length_map, List.length_take, Nat.min_eq_left (by omega), Nat.sub_self, e, List.set_cons_zero, List.take_add_one, List.getElem?_eq_getElem hj, Option.toList_some, List.map_append, List.append_assoc]
    rfl
  rw [← h1]
  unfold valsOf
  rw [List.map_set]
  rfl
set_option maxHeartbeats 4000000 in
set_option maxRecDepth 100000 in
theorem tokens52 (a : Option Addr) (c : Nat) (fs : List Fld) (x : ByteArray) (hfl : fs.length ≤ 1000000) (hok : ∀ f ∈ fs, FldOk f) (hsum : sumS (allB x fs) ≤ 1000000000) (w : World) (hM : MaxL w) (hf : IsFlds w a c fs) :
    Calls Tryz.prog 100 #[.slice a fs.length c, .string x] w fun e w' => ∃ u, e = .returned u ∧ w'.ownsRow w.heap.size 9 1 u (tokF x fs).length (valsOf (tokF x fs)) ∧ Below w.heap.size w w' := by
  have HAL := Lib.hid (all44s a c fs x hfl hok w hf)
  have HLI := Lib.hid (fun b d W h hM => callsIn_wide.1 (list33 b d (allB x fs) hsum W h hM))
  have HTL : Hid (∀ l ∈ listP (allB x fs), l.length ≤ 1000000000) := fun l h => Nat.le_trans (listP_mem h) hsum
  have hTN : (listP (allB x fs)).length ≤ 1000000000 := Nat.le_trans (listP_len _) hsum
  have HM := Lib.hid hM
  unfold tokF
  generalize listP (allB x fs) = T at *
  clear hf hok hsum hM
  go_enter Tryz.func100, Tryz.ntmps100
  go_wp2_with fail
  refine HAL.out.mono ?_
  rintro e w1 ⟨b1, d1, rfl, hs1, hb1⟩
  have S1 := Lib.hid hs1
  have HM1 := Lib.hid (HM.out.below hb1)
  have L1 := Lib.hid hb1
  clear hs1 hb1 HAL HM
  go_wp2_with fail
  refine (HLI.out _ _ w1 S1.out HM1.out).mono ?_
  rintro e w2 ⟨u2, rfl, ho2, hb2⟩
  have L2 := Lib.hid (L1.out.trans (hb2.mono L1.out.size))
  have ho3 := own_mono ho2 L1.out.size
  clear ho2 hb2 L1 S1 HM1 HLI
  have h00 := ho3
  obtain ⟨_, ⟨rfl, h1⟩ | ⟨g, cap, cur, rfl, hg, _, hcap, _⟩⟩ := ho3
  · obtain rfl : T = [] := List.eq_nil_of_length_eq_zero h1
    have H0 := Lib.hid h00
    clear h00 h1
    go_wp2_with fail
    go_loopw [14] (fun i wr => i = .int .i64 0 ∧ wr = w2) (fun _ _ => 0)
    case atStart => exact ⟨rfl, rfl⟩
    case round =>
      obtain ⟨rfl, rfl⟩ := hrel
      go_wp2_with fail
      go_ret
      exact ⟨_, rfl, H0.out, L2.out⟩
  · have O2 : Hid (w2.ownsRow w.heap.size 9 1 (.slice (some ⟨g, 0, none⟩) T.length cap) T.length (valsOf (mixT T 0))) := by
      show World.ownsRow _ _ _ _ _ _ _
      unfold mixT
      simpa using h00
    clear h00
    go_wp2_with fail
    go_loopw [14] (fun i wr => ∃ j : Nat, j ≤ T.length ∧ i = .int .i64 (j : Int) ∧ Hid (wr.ownsRow w.heap.size 9 1 (.slice (some ⟨g, 0, none⟩) T.length cap) T.length (valsOf (mixT T j))) ∧ Hid (Below w.heap.size w wr)) (fun i _ => T.length - (intOf i).toNat)
    case atStart => exact ⟨0, Nat.zero_le _, rfl, O2, L2⟩
    case round =>
      clear O2 L2
      obtain ⟨j, hj, rfl, ho, hb⟩ := hrel
      by_cases hlt : j < T.length
      · have cj := (ho.out.cellAt j (by omega)).trans (mixT_at hlt)
        have HLW := Lib.hid (fun W (_ : True) => lowP T[j] (HTL.out _ (List.getElem_mem hlt)) W)
        have HST := Lib.hid (mixT_step hlt)
        have hat := mixT_at hlt
        generalize bs (T[j].map lowC) = M at *
        generalize bs T[j] = Y at *
        have HAT := Lib.hid hat
        have j1 : (j : Int) < T.length := by omega
        clear hat
        go_wp2_with fail
        refine (HLW.out wr trivial).mono ?_
        rintro e wb ⟨rfl, hbb⟩
        have B2 := Lib.hid (hb.out.trans (hbb.mono hb.out.size))
        have O2 := Lib.hid (own_below ho.out hbb)
        have ck := (O2.out.cellAt j (by omega)).trans HAT.out
        have cf := O2.out.frozenAt j
        have hst := O2.out.stored j (.string M)
        have B3 := Lib.hid (B2.out.setCell (p := ⟨g, j, none⟩) hg (.string M))
        have O3 : Hid ((wb.setCell ⟨g, j, none⟩ (.string M)).ownsRow w.heap.size 9 1 (.slice (some ⟨g, 0, none⟩) T.length cap) T.length (valsOf (mixT T (j + 1)))) := by
          rw [← HST.out]; exact hst.1
        clear hbb ho hb hst O2 B2 cj HLW HST HAT
        go_wp2_with fail
        go_roundw
        case rel => exact ⟨j + 1, hlt, by go_num, O3, B3⟩
        case measure => simp [intOf]; omega
      · obtain rfl : j = T.length := by omega
        have ho2 := ho.out
        have e : mixT T T.length = T.map (List.map lowC) := by unfold mixT; simp
        rw [e] at ho2
        have HO : Hid (wr.ownsRow w.heap.size 9 1 (.slice (some ⟨g, 0, none⟩) T.length cap) (T.map (List.map lowC)).length (valsOf (T.map (List.map lowC)))) := by rw [List.length_map]; exact ho2
        clear ho ho2 e
        go_wp2_with fail
        go_ret
        exact ⟨_, rfl, HO.out, hb.out⟩
end Go.Proofs.YtbbphklhnngjmaaGreatDoor
namespace Go.Proofs.YtbbphklhnngjmaaGreatDoor
open Go.RowKit

theorem wpList_wanted {P : Program} {w : World} {ops : Array Oper} {rest : List Oper} {o : Oper} {a : Act} {Q : Exit → Act → World → Prop} (j d : Nat) (hg : o.guard = some (j, true)) (hj : (ops[j]?).bind (·.dst) = some d) (hd : a.tmps[d]? = some (.bool true))
    (h : ∀ K : Act → World → Prop, (∀ a w, wpList P ops Q rest a w → K a w) → o.wp P a w K Q) : wpList P ops Q (o :: rest) a w :=
  wpList_step fun K hK => by
    simp only [Region.wanted, hg, yielded, hj, Option.bind_some, hd, beq_self_eq_true, if_true]
    exact h K hK
theorem wpList_append_flds {w : World} {ops : Array Oper} {rest : List Oper} {o : Oper} {a : Act} {Q : Exit → Act → World → Prop} (gj gd : Nat) (hgd : o.guard = some (gj, true)) (hgj : (ops[gj]?).bind (·.dst) = some gd) (hgv : a.tmps[gd]? = some (.bool true)) (s x : Operand)
    (ho : o.op = .call { callee := .builtin .append, args := #[s, x], argTypes := #[22, 22] })
    (base : Nat) (v : Value) (n : Nat) (xs : List Value) (hs : a.eval s = v) (hown : w.ownsRow base 53 2 v n xs)
    (b : Option Addr) (d : Nat) (fs : List Fld) (hx : a.eval x = .slice b fs.length d) (hbn : b = none → d = 0 ∧ fs = []) (hf : IsFlds w b d fs) (hn : n + fs.length ≤ 1000000) (hbase : base ≤ w.heap.size)
    (h : ∀ v' w', w'.ownsRow base 53 2 v' (n + fs.length) (xs ++ cellsF fs) → w.grownBy w' v.ownBlock → wpList Tryz.prog ops Q rest (a.put o.dst v') w') : wpList Tryz.prog ops Q (o :: rest) a w := by
  obtain ⟨i0, hi, hz0, hz1, hz2⟩ := info_parts infoRef
  refine wpList_wanted gj gd hgd hgj hgv fun K hK => ?_
  cases b with
  | none =>
    obtain ⟨rfl, rfl⟩ := hbn rfl
    have hrun := run_append_owned_none (P := Tryz.prog) (w := w) base 22 o.type 53 i0 2 Tryz.underlying22 hi v n xs hown
    unfold Oper.wp
    rw [List.length_nil] at hx
    simp [execOp, ho, resolve, invoke, builtin, hs, hx, hrun, Result.andThen]
    refine hK _ _ (h v w ?_ ⟨rfl, rfl, rfl, Nat.le_refl _, fun _ _ _ => rfl⟩)
    simpa [cellsF] using hown
  | some ad =>
    refine wp_append_own w s x 22 ho base 53 i0 (.agg #[.string ⟨#[]⟩, .string ⟨#[]⟩]) 2 32 Tryz.underlying22 hi hz0 hz1 hz2 rfl (by decide) v n xs hs hown ad fs.length d (cellsF fs) hx (cellsF_length fs) ?_ (cellsF_one fs) (by unfold maxLen; omega) (by omega) hbase (fun v' w' h1 h2 _ => hK _ _ (h v' w' h1 h2))
    intro k u hu
    obtain h0 | ⟨bk, o', ha, hlt, hc, hcell⟩ := hf
    · subst h0; simp [cellsF] at hu
    · cases ha
      exact isFlds_cells hcell k u hu
theorem own40m (a : Option Addr) (c : Nat) (fs : List Fld) (hfl : fs.length ≤ 1000000) (w : World) (hf : IsFlds w a c fs) :
    Calls Tryz.prog 36 #[.slice a fs.length c] w fun e w' => ∃ b d, e = .returned (.slice b fs.length d) ∧ d ≤ 9223372036854775807 ∧ (b = none → d = 0 ∧ fs = []) ∧ IsFlds w' b d fs ∧ Below w.heap.size w w' := by
  refine (own40 a c fs hfl w hf).mono ?_
  rintro e w' ⟨u, rfl, ho, hb⟩
  have ho2 := ho
  obtain ⟨b, d, rfl, h1, h2⟩ := own_isFldsT ho
  refine ⟨b, d, rfl, ?_, h1, h2, hb⟩
  obtain ⟨_, ⟨h3, _⟩ | ⟨g, cap, cur, h3, _, _, _, hcm, _⟩⟩ := ho2
  · injection h3 with e1 e2 e3; omega
  · injection h3 with e1 e2 e3; unfold maxLen at hcm; omega
theorem setF_len (n v : List UInt8) (fs : List Fld) : (setF n v fs).length ≤ fs.length + 1 := by
  have h := outR_len (bs n) (n, v) fs fs.length (Nat.le_refl _)
  rw [List.take_of_length_le (Nat.le_refl _)] at h
  rw [← outR_set]
  split
  · omega
  · rw [List.length_append, List.length_singleton]; omega
theorem set46s (a : Option Addr) (c : Nat) (fs : List Fld) (n v : List UInt8) (hfl : fs.length ≤ 100000000) (hcm : c ≤ 9223372036854775807) (ha : a = none → c = 0 ∧ fs = []) (hok : ∀ f ∈ fs, FldOk f) (w : World) (hf : IsFlds w a c fs) :
    Calls Tryz.prog 44 #[.slice a fs.length c, .string (bs n), .string (bs v)] w fun e w' => ∃ b d, e = .returned (.slice b (setF n v fs).length d) ∧ IsFlds w' b d (setF n v fs) ∧ Below w.heap.size w w' := by
  refine (set46 a c fs n v hfl hcm ha hok w hf).mono ?_
  rintro e w' ⟨u, rfl, ho, hb⟩
  obtain ⟨b, d, rfl, _, h2⟩ := own_isFldsT ho
  exact ⟨b, d, rfl, h2, hb⟩
theorem rset47s (a : Option Addr) (c : Nat) (fs : List Fld) (n v : List UInt8) (hfl : fs.length ≤ 1000000) (hok : ∀ f ∈ fs, FldOk f) (hn : n.length ≤ 4000000000) (w : World) (hf : IsFlds w a c fs) :
    Calls Tryz.prog 50 #[.slice a fs.length c, .string (bs n), .string (bs v)] w fun e w' => ∃ b d, e = .returned (.slice b (setF n v fs).length d) ∧ IsFlds w' b d (setF n v fs) ∧ Below w.heap.size w w' := by
  refine (rset47 a c fs n v hfl hok hn w hf).mono ?_
  rintro e w' ⟨u, rfl, ho, hb⟩
  obtain ⟨b, d, rfl, _, h2⟩ := own_isFldsT ho
  exact ⟨b, d, rfl, h2, hb⟩
theorem add48s (a : Option Addr) (c : Nat) (fs : List Fld) (n v : List UInt8) (hfl : fs.length ≤ 100000000) (ha : a = none → c = 0 ∧ fs = []) (w : World) (hf : IsFlds w a c fs) :
    Calls Tryz.prog 46 #[.slice a fs.length c, .string (bs n), .string (bs v)] w fun e w' => ∃ b d, e = .returned (.slice b (fs ++ [(n, v)]).length d) ∧ IsFlds w' b d (fs ++ [(n, v)]) ∧ Below w.heap.size w w' := by
  refine (add48 a c fs n v hfl ha w hf).mono ?_
  rintro e w' ⟨u, rfl, ho, hb⟩
  obtain ⟨b, d, rfl, _, h2⟩ := own_isFldsT ho
  exact ⟨b, d, rfl, h2, hb⟩
theorem tokens52s (a : Option Addr) (c : Nat) (fs : List Fld) (x : ByteArray) (hfl : fs.length ≤ 1000000) (hok : ∀ f ∈ fs, FldOk f) (hsum : sumS (allB x fs) ≤ 1000000000) (w : World) (hM : MaxL w) (hf : IsFlds w a c fs) :
    Calls Tryz.prog 100 #[.slice a fs.length c, .string x] w fun e w' => ∃ b d, e = .returned (.slice b (bsOf (tokF x fs)).length d) ∧ IsStrs w' b d (bsOf (tokF x fs)) ∧ Below w.heap.size w w' := by
  refine (tokens52 a c fs x hfl hok hsum w hM hf).mono ?_
  rintro e w' ⟨u, rfl, ho, hb⟩
  rw [valsOf_bs, ← bsOf_length] at ho
  obtain ⟨b, d, rfl, hs, _⟩ := own_isStrsB ho
  exact ⟨b, d, rfl, hs, hb⟩
theorem rtokens53s (a : Option Addr) (c : Nat) (fs : List Fld) (x : ByteArray) (hfl : fs.length ≤ 1000000) (hok : ∀ f ∈ fs, FldOk f) (hx : x.size ≤ 4000000000) (hsum : sumS (allB x fs) ≤ 1000000000) (w : World) (hf : IsFlds w a c fs) :
    Calls Tryz.prog 84 #[.slice a fs.length c, .string x] w fun e w' => ∃ b d, e = .returned (.slice b (bsOf (tokF x fs)).length d) ∧ IsStrs w' b d (bsOf (tokF x fs)) ∧ Below w.heap.size w w' := by
  refine (rtokens53 a c fs x hfl hok hx hsum w hf).mono ?_
  rintro e w' ⟨u, rfl, ho, hb⟩
  rw [valsOf_bs, ← bsOf_length] at ho
  obtain ⟨b, d, rfl, hs, _⟩ := own_isStrsB ho
  exact ⟨b, d, rfl, hs, hb⟩
theorem fewF_small (fs : List Fld) (n : Nat) : ∀ f ∈ fewF fs n, f.1.length ≤ 20 ∧ f.2.length ≤ 40 := by
  intro f hf
  unfold fewF at hf
  obtain ⟨g, _, rfl⟩ := List.mem_map.1 hf
  exact ⟨by simp; omega, by simp; omega⟩
theorem textL_small : ∀ (fs : List Fld), (∀ f ∈ fs, f.1.length ≤ 20 ∧ f.2.length ≤ 40) → (textL fs).length ≤ fs.length * 64
  | [], _ => by simp [textL]
  | f :: r, h => by
    have h1 := h f List.mem_cons_self
    have h2 := textL_small r (fun g hg => h g (List.mem_cons_of_mem _ hg))
    have e : (textL (f :: r)).length = (lineL f).length + (textL r).length := by simp [textL]
    have e2 : (lineL f).length = f.1.length + 2 + f.2.length + 2 := by simp [lineL]; omega
    rw [e, e2, List.length_cons]
    omega
theorem sumS_small : ∀ (ys : List ByteArray) (m : Nat), (∀ y ∈ ys, y.size ≤ m) → sumS ys ≤ ys.length * (m + 1)
  | [], m, _ => by simp [sumS]
  | a :: r, m, h => by
    have h1 := sumS_small r m (fun y hy => h y (List.mem_cons_of_mem _ hy))
    have h2 := h a List.mem_cons_self
    have h3 : sumS (a :: r) = a.size + 1 + sumS r := by simp [sumS]
    rw [h3, List.length_cons, Nat.add_mul, Nat.one_mul]
    omega
theorem allB_small {x : ByteArray} {fs : List Fld} (h : ∀ f ∈ fs, f.1.length ≤ 20 ∧ f.2.length ≤ 40) : ∀ y ∈ allB x fs, y.size ≤ 40 := by
  intro y hy
  unfold allB at hy
  obtain ⟨f, hf, rfl⟩ := List.mem_map.1 hy
  rw [bs_size]
  exact (h f (List.mem_filter.1 hf).1).2
end Go.Proofs.YtbbphklhnngjmaaGreatDoor

/- rewrite: lists: the names of fields that are for one connection only. -/
namespace Go.Proofs.YtbbphklhnngjmaaGreatDoor
open Go.RowKit

def hostB : ByteArray := ⟨#[72, 111, 115, 116]⟩
def clenB : ByteArray := ⟨#[67, 111, 110, 116, 101, 110, 116, 45, 76, 101, 110, 103, 116, 104]⟩
def connB : ByteArray := ⟨#[67, 111, 110, 110, 101, 99, 116, 105, 111, 110]⟩
def nineP : List ByteArray := [⟨#[67, 111, 110, 110, 101, 99, 116, 105, 111, 110]⟩, ⟨#[75, 101, 101, 112, 45, 65, 108, 105, 118, 101]⟩, ⟨#[80, 114, 111, 120, 121, 45, 67, 111, 110, 110, 101, 99, 116, 105, 111, 110]⟩, ⟨#[80, 114, 111, 120, 121, 45, 65, 117, 116, 104, 101, 110, 116, 105, 99, 97, 116, 101]⟩, ⟨#[80, 114, 111, 120, 121, 45, 65, 117, 116, 104, 111, 114, 105, 122, 97, 116, 105, 111, 110]⟩, ⟨#[84, 69]⟩, ⟨#[84, 114, 97, 105, 108, 101, 114]⟩, ⟨#[84, 114, 97, 110, 115, 102, 101, 114, 45, 69, 110, 99, 111, 100, 105, 110, 103]⟩, ⟨#[85, 112, 103, 114, 97, 100, 101]⟩]
def nineR : List (List UInt8) := [[99, 111, 110, 110, 101, 99, 116, 105, 111, 110], [107, 101, 101, 112, 45, 97, 108, 105, 118, 101], [112, 114, 111, 120, 121, 45, 99, 111, 110, 110, 101, 99, 116, 105, 111, 110], [112, 114, 111, 120, 121, 45, 97, 117, 116, 104, 101, 110, 116, 105, 99, 97, 116, 101], [112, 114, 111, 120, 121, 45, 97, 117, 116, 104, 111, 114, 105, 122, 97, 116, 105, 111, 110], [116, 101], [116, 114, 97, 105, 108, 101, 114], [116, 114, 97, 110, 115, 102, 101, 114, 45, 101, 110, 99, 111, 100, 105, 110, 103], [117, 112, 103, 114, 97, 100, 101]]
/-- Is a token one that stays? -/
def stayB (x : ByteArray) : Bool := decide (x.data.toList.map lowC = hostB.data.toList.map lowC) || decide (x.data.toList.map lowC = clenB.data.toList.map lowC)
def goes (toks : List ByteArray) : List ByteArray := toks.filter fun x => !stayB x
/-- The names that the program drops. -/
def hopP (toks : List ByteArray) : List ByteArray := nineP ++ goes toks
/-- Is a field hop by hop, as the document says? -/
def hopR (n : List UInt8) (toks : List ByteArray) : Bool := (nineR.any fun h => decide (n.map lowC = h)) || toks.any fun t => decide (n.map lowC = t.data.toList ∧ t.data.toList ≠ hostB.data.toList.map lowC ∧ t.data.toList ≠ clenB.data.toList.map lowC)
def hopsR (toks : List ByteArray) (fs : List Fld) : List Fld := fs.filter fun f => !hopR f.1 toks
theorem nine_low : nineP.map (fun x => x.data.toList.map lowC) = nineR := by decide +kernel
theorem hop_eq (f : Fld) (toks : List ByteArray) (hl : ∀ t ∈ toks, t.data.toList.map lowC = t.data.toList) : hasB (hopP toks) f = hopR f.1 toks := by
  unfold hasB hopP hopR
  rw [List.any_append]
  congr 1
  · rw [← nine_low, List.any_map]
    congr 1
    funext x
    exact decide_eq_decide.2 eq_comm
  · unfold goes
    rw [List.any_filter, Bool.eq_iff_iff, List.any_eq_true, List.any_eq_true]
    constructor
    · rintro ⟨t, ht, h⟩
      refine ⟨t, ht, ?_⟩
      have e := hl t ht
      simp only [stayB, Bool.and_eq_true, Bool.not_eq_true', Bool.or_eq_false_iff, decide_eq_true_eq, decide_eq_false_iff_not] at h
      rw [e] at h
      exact decide_eq_true ⟨h.2.symm, h.1.1, h.1.2⟩
    · rintro ⟨t, ht, h⟩
      refine ⟨t, ht, ?_⟩
      have e := hl t ht
      have h := of_decide_eq_true h
      simp only [stayB, Bool.and_eq_true, Bool.not_eq_true', Bool.or_eq_false_iff, decide_eq_true_eq, decide_eq_false_iff_not]
      rw [e]
      exact ⟨⟨h.2.1, h.2.2⟩, h.1.symm⟩
theorem low_low (l : List UInt8) : (l.map lowC).map lowC = l.map lowC := by
  rw [List.map_map]
  congr 1
  funext b
  exact lowC_low b
theorem tok_low (x : ByteArray) (fs : List Fld) : ∀ t ∈ bsOf (tokF x fs), t.data.toList.map lowC = t.data.toList := by
  intro t ht
  unfold bsOf tokF at ht
  rw [List.map_map] at ht
  obtain ⟨l, _, rfl⟩ := List.mem_map.1 ht
  exact low_low l
theorem hops_eq (x : ByteArray) (fs : List Fld) : dropL (hopP (bsOf (tokF x fs))) fs = hopsR (bsOf (tokF x fs)) fs := by
  unfold dropL hopsR
  congr 1
  funext f
  rw [hop_eq f _ (tok_low x fs)]
theorem allB_caseW {x y : ByteArray} (h : x.data.toList.map lowC = y.data.toList.map lowC) (fs : List Fld) : allB x fs = allB y fs := by
  unfold allB isB
  rw [h]
theorem tok_case {x y : ByteArray} (h : x.data.toList.map lowC = y.data.toList.map lowC) (fs : List Fld) : tokF x fs = tokF y fs := by
  unfold tokF
  rw [allB_caseW h fs]
theorem dropL_len (xs : List ByteArray) (fs : List Fld) : (dropL xs fs).length ≤ fs.length := List.length_filter_le _ _
theorem dropL_mem {xs : List ByteArray} {fs : List Fld} {f : Fld} (h : f ∈ dropL xs fs) : f ∈ fs := (List.mem_filter.1 h).1
theorem tokF_len (x : ByteArray) (fs : List Fld) : (bsOf (tokF x fs)).length ≤ sumS (allB x fs) := by
  unfold bsOf tokF
  rw [List.length_map, List.length_map]
  exact listP_len _
end Go.Proofs.YtbbphklhnngjmaaGreatDoor

/- rewrite: the tokens that stay; slices.IndexFunc, slices.DeleteFunc of texts. -/
namespace Go.Proofs.YtbbphklhnngjmaaGreatDoor
open Go.RowKit

set_option maxRecDepth 100000 in
set_option maxHeartbeats 2000000 in
theorem stays104 (x : ByteArray) (R : Bool) (hR : R = stayB x) (w : World) :
    Calls Tryz.prog 104 #[.string x] w fun e w' => e = .returned (.bool R) ∧ Below w.heap.size w w' := by
  have H1 := Lib.hid (fun q hq W => fold22 x ⟨#[72, 111, 115, 116]⟩ (by decide) q hq W)
  have H2 := Lib.hid (fun q hq W => fold22 x ⟨#[67, 111, 110, 116, 101, 110, 116, 45, 76, 101, 110, 103, 116, 104]⟩ (by decide) q hq W)
  obtain ⟨q1, hq1⟩ : ∃ q, q = decide (x.data.toList.map lowC = hostB.data.toList.map lowC) := ⟨_, rfl⟩
  obtain ⟨q2, hq2⟩ : ∃ q, q = decide (x.data.toList.map lowC = clenB.data.toList.map lowC) := ⟨_, rfl⟩
  have H1' := Lib.hid (H1.out q1 hq1)
  have H2' := Lib.hid (H2.out q2 hq2)
  have HR : R = (q1 || q2) := by rw [hR, hq1, hq2]; rfl
  subst HR
  clear H1 H2 hq1 hq2 hR
  go_enter Tryz.func104, Tryz.ntmps104
  go_wp2_with fail
  refine (H1'.out _).mono ?_
  rintro e w1 ⟨rfl, hb1⟩
  cases q1
  · go_wp2_with fail
    refine (H2'.out _).mono ?_
    rintro e w2 ⟨rfl, hb2⟩
    go_wp2_with fail
    go_ret
    exact ⟨rfl, hb1.trans (hb2.mono hb1.size)⟩
  · go_wp2_with fail
    go_ret
    exact ⟨rfl, hb1⟩
/-- The function value. -/
def staysV : Value := .func (.func 104) #[] #[]
def findS (xs : List ByteArray) : Int := match xs.findIdx? stayB with
  | some i => (i : Int)
  | none => -1
theorem findS_no {xs : List ByteArray} (h : ∀ x ∈ xs, stayB x = false) : findS xs = -1 := by
  unfold findS
  rw [List.findIdx?_eq_none_iff.2 h]
theorem findS_at {xs : List ByteArray} {j : Nat} (hj : j < xs.length) (h : ∀ x ∈ xs.take j, stayB x = false) (hq : stayB xs[j] = true) : findS xs = (j : Int) := by
  have : xs.findIdx? stayB = some j := by
    rw [List.findIdx?_eq_some_iff_getElem]
    refine ⟨hj, hq, fun i hi => ?_⟩
    have hm : xs[i] ∈ xs.take j := by
      rw [List.mem_take_iff_getElem]
      exact ⟨i, by omega, rfl⟩
    simp [h _ hm]
  unfold findS
  rw [this]
set_option maxRecDepth 100000 in
set_option maxHeartbeats 2000000 in
theorem index125 (a : Option Addr) (c : Nat) (xs : List ByteArray) (hfl : xs.length ≤ 1000000000) (w : World) (hf : IsStrs w a c xs) :
    Calls Tryz.prog 125 #[.slice a xs.length c, staysV] w fun e w' => e = .returned (.int .i64 (findS xs)) ∧ Below w.heap.size w w' := by
  obtain ⟨R, hR⟩ : ∃ R, R = findS xs := ⟨_, rfl⟩
  rw [← hR]
  have HR := Lib.hid hR
  have HX := Lib.hid hf
  clear hR hf
  unfold staysV
  go_enter Tryz.func125, Tryz.ntmps125
  go_wp2_with fail
  go_loopw [8] (fun i wr => ∃ j : Nat, j ≤ xs.length ∧ i = .int .i64 (j : Int) ∧ Hid (∀ x ∈ xs.take j, stayB x = false) ∧ Below w.heap.size w wr) (fun i _ => xs.length - (intOf i).toNat)
  case atStart => exact ⟨0, Nat.zero_le _, rfl, (fun f hf => by simp at hf), Below.refl _ _⟩
  case round =>
    obtain ⟨j, hj, rfl, hno, hb⟩ := hrel
    by_cases hlt : j < xs.length
    · obtain h0 | ⟨bk, o, rfl, hbk, hc, hcell⟩ := HX.out.below hb
      · subst h0; simp at hlt
      have c1 := hcell j xs[j] (by simp [hlt])
      obtain ⟨q, hq⟩ : ∃ q, q = stayB xs[j] := ⟨_, rfl⟩
      have HF := Lib.hid (fun W => stays104 xs[j] q hq W)
      have HN : Hid (q = false → ∀ f ∈ xs.take (j + 1), stayB f = false) := fun e f hf => by
        rw [List.take_add_one, List.getElem?_eq_getElem hlt, Option.toList_some, List.mem_append] at hf
        rcases hf with hf | hf
        · exact hno.out f hf
        · rw [List.mem_singleton] at hf; subst hf; rw [← hq, e]
      have HY : Hid (q = true → R = (j : Int)) := fun e => by rw [HR.out]; exact findS_at hlt hno.out (hq ▸ e)
      obtain ⟨x, hxe⟩ : ∃ x, x = xs[j] := ⟨_, rfl⟩
      rw [← hxe] at c1 HF
      clear hcell hq hxe
      have j1 : (j : Int) < xs.length := by omega
      go_wp2_with fail
      refine (HF.out _).mono ?_
      rintro e w2 ⟨rfl, hb2⟩
      have b2 := hb.trans (hb2.mono hb.size)
      cases q
      · have HN2 := Lib.hid (HN.out rfl)
        clear HN HY
        go_wp2_with fail
        go_roundw
        case rel => exact ⟨j + 1, hlt, by go_num, HN2, b2⟩
        case measure => simp [intOf]; omega
      · have HY2 := Lib.hid (HY.out rfl)
        clear HN HY
        go_wp2_with fail
        go_ret
        exact ⟨by rw [HY2.out]; rfl, b2⟩
    · have hn := hno.out
      rw [List.take_of_length_le (by omega)] at hn
      have HN : Hid (R = -1) := by
        have e := HR.out
        rw [findS_no hn] at e
        exact e
      clear hn hno
      go_wp2_with fail
      go_ret
      exact ⟨by rw [HN.out]; rfl, hb⟩
/-- A block of places that may be written. -/
def Open1 (w : World) (g n : Nat) : Prop := g < w.heap.size ∧ ∀ k, k < n → (w.cell? ⟨g, k, none⟩).isSome = true ∧ w.frozen? ⟨g, k, none⟩ = false
def StrAt (w : World) (g k : Nat) (x : ByteArray) : Prop := w.cell? ⟨g, k, none⟩ = some (.string x)
theorem StrAt.below {w w' : World} {g k : Nat} {x : ByteArray} (h : StrAt w g k x) (hb : Below w.heap.size w w') (hg : g < w.heap.size) : StrAt w' g k x := ((bcell hb).1 _ _ hg).trans h
theorem Open1.below {w w' : World} {g n : Nat} (h : Open1 w g n) (hb : Below w.heap.size w w') : Open1 w' g n := by
  obtain ⟨hc, hf⟩ := bcell hb
  exact ⟨Nat.lt_of_lt_of_le h.1 hb.size, fun k hk => by rw [hc _ _ h.1, hf _ _ h.1]; exact h.2 k hk⟩
theorem Open1.set {w : World} {g n : Nat} (h : Open1 w g n) (p : Nat) (v : Value) : Open1 (w.setCell ⟨g, p, none⟩ v) g n := by
  refine ⟨by simpa [World.setCell] using h.1, fun k hk => ?_⟩
  obtain ⟨h1, h2⟩ := h.2 k hk
  refine ⟨?_, by rw [World.frozen?_setCell]; exact h2⟩
  by_cases e : k = p
  · subst e
    obtain ⟨u, hu⟩ := Option.isSome_iff_exists.1 h1
    rw [World.cell?_setCell_same _ _ _ hu]; rfl
  · rw [World.cell?_setCell_other _ _ _ _ (by simp <;> omega)]; exact h1
theorem StrAt.set {w : World} {g k : Nat} {x : ByteArray} (h : StrAt w g k x) (p : Nat) (v : Value) (hp : p ≠ k) : StrAt (w.setCell ⟨g, p, none⟩ v) g k x := by
  unfold StrAt
  rw [World.cell?_setCell_other _ _ _ _ (by simp <;> omega)]; exact h
theorem StrAt.put {w : World} {g n k : Nat} (h : Open1 w g n) (hk : k < n) (x : ByteArray) : StrAt (w.setCell ⟨g, k, none⟩ (.string x)) g k x := by
  obtain ⟨u, hu⟩ := Option.isSome_iff_exists.1 (h.2 k hk).1
  exact World.cell?_setCell_same _ _ _ hu
theorem goes_keep {xs : List ByteArray} {j : Nat} (hj : j < xs.length) (h : stayB xs[j] = false) : goes (xs.take (j + 1)) = goes (xs.take j) ++ [xs[j]] := by
  unfold goes
  rw [List.take_add_one, List.getElem?_eq_getElem hj, Option.toList_some, List.filter_append]
  simp [h]
theorem goes_drop {xs : List ByteArray} {j : Nat} (hj : j < xs.length) (h : stayB xs[j] = true) : goes (xs.take (j + 1)) = goes (xs.take j) := by
  unfold goes
  rw [List.take_add_one, List.getElem?_eq_getElem hj, Option.toList_some, List.filter_append]
  simp [h]
theorem goes_none {xs : List ByteArray} (h : ∀ x ∈ xs, stayB x = false) : goes xs = xs := by
  unfold goes
  rw [List.filter_eq_self]
  intro f hf
  simp [h f hf]
theorem findS_cases (xs : List ByteArray) : (findS xs = -1 ∧ ∀ x ∈ xs, stayB x = false) ∨ ∃ i, ∃ h : i < xs.length, findS xs = (i : Int) ∧ stayB xs[i] = true ∧ ∀ x ∈ xs.take i, stayB x = false := by
  unfold findS
  cases hfi : xs.findIdx? stayB with
  | none => exact .inl ⟨rfl, List.findIdx?_eq_none_iff.1 hfi⟩
  | some i =>
    obtain ⟨h, h1, h2⟩ := List.findIdx?_eq_some_iff_getElem.1 hfi
    refine .inr ⟨i, h, rfl, h1, fun f hf => ?_⟩
    obtain ⟨k, hk, rfl⟩ := List.mem_take_iff_getElem.1 hf
    have := h2 k (by omega)
    simpa using this
theorem run_clear1 (w : World) (ty : TypeId) (b o n c : Nat) (hn : 0 < n) (hc : ∀ j, j < n → (w.cell? ⟨b, o + j, none⟩).isSome = true) (hf : ∀ j, j < n → w.frozen? ⟨b, o + j, none⟩ = false) :
    (Builtin.clear_ #[88] ty #[.slice (some ⟨b, o, none⟩) n c]).run Tryz.prog w = .ok (.tuple #[]) (w.setCells b o (Builtin.zeroCells #[.string ⟨#[]⟩] n).toList) := by
  have hv : ∀ w, (zeroValue 9).run Tryz.prog w = .ok (.string ⟨#[]⟩) w := fun w => by kernel_rfl
  have hz : (Builtin.zeroCells #[Value.string ⟨#[]⟩] n).toList.length = n := by simp [Builtin.zeroCells]
  have hone : ∀ v ∈ (Builtin.zeroCells #[Value.string ⟨#[]⟩] n).toList, v.oneCell' = true := by
    intro v hv'
    simp [Builtin.zeroCells] at hv'
    obtain ⟨i, _, rfl⟩ := hv'
    rw [Nat.mod_one]
    rfl
  have hst := run_storeCells_cells (P := Tryz.prog) b o (Builtin.zeroCells #[Value.string ⟨#[]⟩] n).toList 0 w (by rw [hz]; simpa using hc) (by rw [hz]; simpa using hf) hone
  simp only [Nat.add_zero] at hst
  obtain ⟨m, rfl⟩ : ∃ m, n = m + 1 := ⟨n - 1, by omega⟩
  simp [Builtin.clear_, run_underlying Tryz.underlying88, hv, Value.cells, hst]
end Go.Proofs.YtbbphklhnngjmaaGreatDoor

/- rewrite: slices.DeleteFunc of texts; hopNames, Hops. -/
namespace Go.Proofs.YtbbphklhnngjmaaGreatDoor
open Go.RowKit

theorem own_openS {w : World} {base : Nat} {v : Value} {ys : List ByteArray} (h : w.ownsRow base 9 1 v ys.length (ys.map Value.string)) :
    (v = .slice none 0 0 ∧ ys = []) ∨ ∃ g cap, v = .slice (some ⟨g, 0, none⟩) ys.length cap ∧ base ≤ g ∧ ys.length ≤ cap ∧ Open1 w g ys.length ∧ ∀ (k : Nat) x, ys[k]? = some x → StrAt w g k x := by
  obtain ⟨_, ⟨rfl, h0⟩ | ⟨g, cap, cur, rfl, hbg, hg, hcap, _, hcs, htk⟩⟩ := h
  · exact .inl ⟨rfl, List.eq_nil_of_length_eq_zero h0⟩
  · refine .inr ⟨g, cap, rfl, hbg, hcap, ⟨(Array.getElem?_eq_some_iff.1 hg).1, fun k hk => ?_⟩, fun k f hf => ?_⟩
    · have hks : k < cur.size := by omega
      exact ⟨by simp [World.cell?, hg, hks], by simp [World.frozen?, hg]⟩
    · have hj := (List.getElem?_eq_some_iff.1 hf).1
      have g1 : (ys.map Value.string)[k]? = some (.string f) := by rw [List.getElem?_map, hf]; rfl
      rw [← htk, List.getElem?_take, if_pos (by omega)] at g1
      simp only [Array.getElem?_toList] at g1
      unfold StrAt
      simp [World.cell?, hg, g1]
set_option maxRecDepth 1000000 in
set_option maxHeartbeats 4000000 in
theorem delete106_nil (w : World) :
    Calls Tryz.prog 106 #[.slice none 0 0, staysV] w fun e w' => e = .returned (.slice none 0 0) ∧ Below w.heap.size w w' := by
  have HI := Lib.hid (index125 none 0 [] (by simp) w (.inl rfl))
  have e0 : findS [] = -1 := rfl
  rw [e0] at HI
  obtain ⟨V, hV⟩ : ∃ V, V = staysV := ⟨_, rfl⟩
  rw [← hV] at HI ⊢
  clear hV e0
  go_enter Tryz.func106, Tryz.ntmps106
  go_wp2_with fail
  refine HI.out.mono ?_
  rintro e w1 ⟨rfl, hb1⟩
  go_wp2_with fail
  go_ret
  exact ⟨rfl, hb1⟩
set_option maxRecDepth 1000000 in
set_option maxHeartbeats 4000000 in
theorem delete106 (w0 : World) (g cap : Nat) (fs : List ByteArray) (hfl : fs.length ≤ 1000000000) (hg : w0.heap.size ≤ g) (hcap : fs.length ≤ cap)
    (w : World) (hbl : Below w0.heap.size w0 w) (hop : Open1 w g fs.length) (hp : ∀ (k : Nat) f, fs[k]? = some f → StrAt w g k f) :
    Calls Tryz.prog 106 #[.slice (some ⟨g, 0, none⟩) fs.length cap, staysV] w fun e w' =>
      e = .returned (.slice (some ⟨g, 0, none⟩) (goes fs).length cap) ∧ IsStrs w' (some ⟨g, 0, none⟩) cap (goes fs) ∧ Below w0.heap.size w0 w' := by
  have hif : IsStrs w (some ⟨g, 0, none⟩) cap fs := .inr ⟨g, 0, rfl, hop.1, hcap, fun j f hf => by rw [Nat.zero_add]; exact hp j f hf⟩
  have HI := Lib.hid (index125 (some ⟨g, 0, none⟩) cap fs hfl w hif)
  obtain ⟨V, hV⟩ : ∃ V, V = staysV := ⟨_, rfl⟩
  rw [← hV] at HI ⊢
  have HV := Lib.hid hV
  have HOP := Lib.hid hop
  have HP := Lib.hid hp
  clear hV hop hp hif
  rcases findS_cases fs with ⟨hi, hno⟩ | ⟨i, hil, hi, hyes, hno⟩
  · rw [hi] at HI
    have hd := goes_none hno
    have HD := Lib.hid hd
    rw [hd]
    clear hi hno hd
    go_enter Tryz.func106, Tryz.ntmps106
    go_wp2_with fail
    refine HI.out.mono ?_
    rintro e w1 ⟨rfl, hb1⟩
    go_wp2_with fail
    go_ret
    refine ⟨rfl, ?_, hbl.trans (hb1.mono hbl.size)⟩
    have : IsStrs w (some ⟨g, 0, none⟩) cap fs := .inr ⟨g, 0, rfl, HOP.out.1, hcap, fun j f hf => by rw [Nat.zero_add]; exact HP.out j f hf⟩
    exact this.below hb1
  · rw [hi] at HI
    have ht : goes (fs.take (i + 1)) = fs.take i := by rw [goes_drop hil hyes, goes_none hno]
    have hl : i = (goes (fs.take (i + 1))).length := by rw [ht, List.length_take]; omega
    have HT := Lib.hid ht
    have HL := Lib.hid hl
    have i1 : ((i : Int) == -1) = false := beq_eq_false_iff_ne.2 (by omega)
    clear hi hno hyes ht hl
    go_enter Tryz.func106, Tryz.ntmps106
    go_wp2_with fail
    refine HI.out.mono ?_
    rintro e w1 ⟨rfl, hb1⟩
    have b1 := hbl.trans (hb1.mono hbl.size)
    have O1 : Hid (Open1 w1 g fs.length) := HOP.out.below hb1
    have P1 : Hid (∀ (k : Nat) f, fs[k]? = some f → StrAt w1 g k f) := fun k f hf => (HP.out k f hf).below hb1 HOP.out.1
    go_wp2_with fail
    clear i1 hbl hb1
    go_loopw [5, 6] (fun vi vj wr => ∃ i j : Nat, vi = .int .i64 (i : Int) ∧ vj = .int .i64 (j : Int) ∧ i < j ∧ j ≤ fs.length ∧ Hid (i = (goes (fs.take j)).length) ∧ Hid (Open1 wr g fs.length) ∧ Hid (∀ (k : Nat) f, (goes (fs.take j))[k]? = some f → StrAt wr g k f) ∧ Hid (∀ (k : Nat) f, j ≤ k → fs[k]? = some f → StrAt wr g k f) ∧ Below w0.heap.size w0 wr)
      (fun _ vj _ => fs.length - (intOf vj).toNat)
    case atStart =>
      refine ⟨i, i + 1, rfl, by first | rfl | go_num, by omega, by omega, HL, O1, ?_, fun k f _ hf => P1.out k f hf, b1⟩
      show ∀ _ _, _
      rw [HT.out]
      intro k f hf
      rw [List.getElem?_take] at hf
      split at hf
      · exact P1.out k f hf
      · cases hf
    case round =>
      clear O1 P1 b1 HL HT hil HI HOP HP
      obtain ⟨i, j, rfl, rfl, hij, hj, hlen, hO, hK, hS, hb⟩ := hrel
      by_cases hlt : j < fs.length
      · have c1 : StrAt wr g j fs[j] := hS.out j fs[j] (Nat.le_refl _) (by simp [hlt])
        have hgl := hO.out.1
        obtain ⟨q, hq⟩ : ∃ q, q = stayB fs[j] := ⟨_, rfl⟩
        obtain ⟨f, hfe⟩ : ∃ f, f = fs[j] := ⟨_, rfl⟩
        have HKeep : Hid (q = false → goes (fs.take (j + 1)) = goes (fs.take j) ++ [f]) := fun e => by rw [hfe]; exact goes_keep hlt (hq ▸ e)
        have HDrop : Hid (q = true → goes (fs.take (j + 1)) = goes (fs.take j)) := fun e => goes_drop hlt (hq ▸ e)
        rw [← hfe] at c1 hq
        clear hfe
        have HC := Lib.hid (fun W => stays104 f q hq W)
        clear hq
        unfold StrAt at c1
        have j1 : (j : Int) < fs.length := by omega
        rw [HV.out]
        unfold staysV
        go_wp2_with fail
        refine (HC.out _).mono ?_
        rintro e w2 ⟨rfl, hb2⟩
        have b2 := hb.trans (hb2.mono hb.size)
        have O2 : Hid (Open1 w2 g fs.length) := hO.out.below hb2
        have K2 : Hid (∀ (k : Nat) f, (goes (fs.take j))[k]? = some f → StrAt w2 g k f) := fun k f hf => (hK.out k f hf).below hb2 hgl
        have S2 : Hid (∀ (k : Nat) f, j ≤ k → fs[k]? = some f → StrAt w2 g k f) := fun k f hk hf => (hS.out k f hk hf).below hb2 hgl
        clear hb2 hO hK hS c1 HC hb
        cases q
        · have HK3 := Lib.hid (HKeep.out rfl)
          clear HKeep HDrop
          obtain ⟨u0, hu0⟩ := Option.isSome_iff_exists.1 (O2.out.2 i (by omega)).1
          have z0 := (O2.out.2 i (by omega)).2
          have ii : (i : Int) < fs.length := by omega
          have hput := StrAt.put O2.out (show i < fs.length by omega) f
          have O3 : Hid (Open1 (w2.setCell ⟨g, i, none⟩ (.string f)) g fs.length) := O2.out.set _ _
          have hl3 : Hid (i + 1 = (goes (fs.take (j + 1))).length) := by
            show i + 1 = _
            rw [HK3.out, List.length_append, ← hlen.out]; rfl
          have K3 : Hid (∀ (k : Nat) f', (goes (fs.take (j + 1)))[k]? = some f' → StrAt (w2.setCell ⟨g, i, none⟩ (.string f)) g k f') := by
            intro k f' hf
            rw [HK3.out] at hf
            by_cases hk : k < i
            · rw [List.getElem?_append_left (by rw [← hlen.out]; exact hk)] at hf
              exact (K2.out k f' hf).set _ _ (by omega)
            · rw [List.getElem?_append_right (by rw [← hlen.out]; omega), ← hlen.out] at hf
              have hk0 : k - i = 0 := by
                have := (List.getElem?_eq_some_iff.1 hf).1
                simp at this
                omega
              rw [hk0] at hf
              obtain rfl : f = f' := by simpa using hf
              obtain rfl : k = i := by omega
              exact hput
          have S3 : Hid (∀ (k : Nat) f', j + 1 ≤ k → fs[k]? = some f' → StrAt (w2.setCell ⟨g, i, none⟩ (.string f)) g k f') := fun k f' hk hf =>
            (S2.out k f' (by omega) hf).set _ _ (by omega)
          have b3 := b2.setCell (p := ⟨g, i, none⟩) hg (.string f)
          clear hput O2 K2 S2 hlen HK3
          go_wp2_with fail
          go_roundw
          case rel => exact ⟨i + 1, j + 1, by go_num, by go_num, by omega, hlt, hl3, O3, K3, S3, b3⟩
          case measure => simp [intOf]; omega
        · have HD3 := Lib.hid (HDrop.out rfl)
          clear HKeep HDrop
          have hl3 : Hid (i = (goes (fs.take (j + 1))).length) := by show i = _; rw [HD3.out]; exact hlen.out
          have K3 : Hid (∀ (k : Nat) f, (goes (fs.take (j + 1)))[k]? = some f → StrAt w2 g k f) := by
            intro k f hf
            rw [HD3.out] at hf
            exact K2.out k f hf
          have S3 : Hid (∀ (k : Nat) f, j + 1 ≤ k → fs[k]? = some f → StrAt w2 g k f) := fun k f hk hf => S2.out k f (by omega) hf
          clear K2 S2 hlen HD3
          go_wp2_with fail
          go_roundw
          case rel => exact ⟨i, j + 1, rfl, by go_num, by omega, hlt, hl3, O2, K3, S3, b2⟩
          case measure => simp [intOf]; omega
      · obtain rfl : j = fs.length := by omega
        have hK2 := hK.out
        have hl2 := hlen.out
        rw [List.take_of_length_le (Nat.le_refl _)] at hK2 hl2
        have hclr := run_clear1 wr 0 g i (fs.length - i) (cap - i) (by omega) (fun k hk => (hO.out.2 _ (by omega)).1) (fun k hk => (hO.out.2 _ (by omega)).2)
        have HKK := Lib.hid hK2
        have HLL := Lib.hid hl2
        have ii : (i : Int) ≤ fs.length := by omega
        have ic : (i : Int) ≤ cap := by omega
        have i00 : (0 : Int) ≤ i := by omega
        have hcc : (fs.length : Int) ≤ cap := by omega
        have hgl := hO.out.1
        have hbz : Below w0.heap.size w0 (wr.setCells g i (Builtin.zeroCells #[.string ⟨#[]⟩] (fs.length - i)).toList) := below_setCells g hg _ _ _ hb
        clear hK2 hl2 hK hlen hS
        have hsz : g < (wr.setCells g i (Builtin.zeroCells #[.string ⟨#[]⟩] (fs.length - i)).toList).heap.size := Nat.lt_of_lt_of_le (Nat.lt_of_lt_of_le hgl (Nat.le_of_eq (size_setCells g _ _ _).symm)) (Nat.le_refl _)
        go_wp2_with fail
        go_ret
        refine ⟨by rw [← HLL.out]; rfl, ?_, hbz⟩
        have hcl : (goes fs).length ≤ cap := by have := HLL.out; omega
        refine .inr ⟨g, 0, rfl, hsz, hcl, fun k f hf => ?_⟩
        have hki : k < i := by have := (List.getElem?_eq_some_iff.1 hf).1; have := HLL.out; omega
        have p0 := HKK.out k f hf
        rw [Nat.zero_add]
        rw [cell_setCells_before g _ _ _ _ (by omega)]; exact p0
theorem goes_len (xs : List ByteArray) : (goes xs).length ≤ xs.length := List.length_filter_le _ _
theorem hopP_row {w : World} {B : Nat} {v : Value} {ts : List ByteArray} {n : Nat} (hn : n = (goes ts).length) (h : w.ownsRow B 9 1 v (9 + n) (nineP.map Value.string ++ (goes ts).map Value.string)) : ∃ b d, v = .slice b (hopP ts).length d ∧ IsStrs w b d (hopP ts) := by
  have e : 9 + n = (hopP ts).length := by unfold hopP; rw [List.length_append, hn]; rfl
  have e2 : nineP.map Value.string ++ (goes ts).map Value.string = (hopP ts).map Value.string := by unfold hopP; rw [List.map_append]
  rw [e, e2] at h
  obtain ⟨b, d, h1, h2, _⟩ := own_isStrsB h
  exact ⟨b, d, h1, h2⟩
set_option maxRecDepth 1000000 in
set_option maxHeartbeats 4000000 in
theorem hopNames79 (a : Option Addr) (c : Nat) (fs : List Fld) (hfl : fs.length ≤ 1000000) (hok : ∀ f ∈ fs, FldOk f) (hsum : sumS (allB connB fs) ≤ 1000000000) (w : World) (hM : MaxL w) (hf : IsFlds w a c fs) :
    Calls Tryz.prog 79 #[.slice a fs.length c] w fun e w' => ∃ b d, e = .returned (.slice b (hopP (bsOf (tokF connB fs))).length d) ∧ IsStrs w' b d (hopP (bsOf (tokF connB fs))) ∧ Below w.heap.size w w' := by
  obtain ⟨i0, hi, hz0, hz1, hz2⟩ := info_parts info9
  have HT := Lib.hid (fun W hM h => tokens52 a c fs connB hfl hok hsum W hM h)
  rw [show connB = ⟨#[67, 111, 110, 110, 101, 99, 116, 105, 111, 110]⟩ from rfl] at HT
  have htl := tokF_len connB fs
  have L0 := Lib.hid (below_alloc w (.cells #[.string ⟨#[67, 111, 110, 110, 101, 99, 116, 105, 111, 110]⟩, .string ⟨#[75, 101, 101, 112, 45, 65, 108, 105, 118, 101]⟩, .string ⟨#[80, 114, 111, 120, 121, 45, 67, 111, 110, 110, 101, 99, 116, 105, 111, 110]⟩, .string ⟨#[80, 114, 111, 120, 121, 45, 65, 117, 116, 104, 101, 110, 116, 105, 99, 97, 116, 101]⟩, .string ⟨#[80, 114, 111, 120, 121, 45, 65, 117, 116, 104, 111, 114, 105, 122, 97, 116, 105, 111, 110]⟩, .string ⟨#[84, 69]⟩, .string ⟨#[84, 114, 97, 105, 108, 101, 114]⟩, .string ⟨#[84, 114, 97, 110, 115, 102, 101, 114, 45, 69, 110, 99, 111, 100, 105, 110, 103]⟩, .string ⟨#[85, 112, 103, 114, 97, 100, 101]⟩] 9))
  have O0 : Hid ((w.alloc (.cells #[.string ⟨#[67, 111, 110, 110, 101, 99, 116, 105, 111, 110]⟩, .string ⟨#[75, 101, 101, 112, 45, 65, 108, 105, 118, 101]⟩, .string ⟨#[80, 114, 111, 120, 121, 45, 67, 111, 110, 110, 101, 99, 116, 105, 111, 110]⟩, .string ⟨#[80, 114, 111, 120, 121, 45, 65, 117, 116, 104, 101, 110, 116, 105, 99, 97, 116, 101]⟩, .string ⟨#[80, 114, 111, 120, 121, 45, 65, 117, 116, 104, 111, 114, 105, 122, 97, 116, 105, 111, 110]⟩, .string ⟨#[84, 69]⟩, .string ⟨#[84, 114, 97, 105, 108, 101, 114]⟩, .string ⟨#[84, 114, 97, 110, 115, 102, 101, 114, 45, 69, 110, 99, 111, 100, 105, 110, 103]⟩, .string ⟨#[85, 112, 103, 114, 97, 100, 101]⟩] 9)).ownsRow w.heap.size 9 1 (.slice (some ⟨w.heap.size, 0, none⟩) 9 9) 9 (nineP.map Value.string)) := World.ownsRow_lit w #[.string ⟨#[67, 111, 110, 110, 101, 99, 116, 105, 111, 110]⟩, .string ⟨#[75, 101, 101, 112, 45, 65, 108, 105, 118, 101]⟩, .string ⟨#[80, 114, 111, 120, 121, 45, 67, 111, 110, 110, 101, 99, 116, 105, 111, 110]⟩, .string ⟨#[80, 114, 111, 120, 121, 45, 65, 117, 116, 104, 101, 110, 116, 105, 99, 97, 116, 101]⟩, .string ⟨#[80, 114, 111, 120, 121, 45, 65, 117, 116, 104, 111, 114, 105, 122, 97, 116, 105, 111, 110]⟩, .string ⟨#[84, 69]⟩, .string ⟨#[84, 114, 97, 105, 108, 101, 114]⟩, .string ⟨#[84, 114, 97, 110, 115, 102, 101, 114, 45, 69, 110, 99, 111, 100, 105, 110, 103]⟩, .string ⟨#[85, 112, 103, 114, 97, 100, 101]⟩] 9 (Nat.le_refl _) (by decide) (by simp)
  have F0 := Lib.hid (hf.below L0.out)
  have M0 := Lib.hid (hM.below L0.out)
  have hs0 : (w.alloc (.cells #[.string ⟨#[67, 111, 110, 110, 101, 99, 116, 105, 111, 110]⟩, .string ⟨#[75, 101, 101, 112, 45, 65, 108, 105, 118, 101]⟩, .string ⟨#[80, 114, 111, 120, 121, 45, 67, 111, 110, 110, 101, 99, 116, 105, 111, 110]⟩, .string ⟨#[80, 114, 111, 120, 121, 45, 65, 117, 116, 104, 101, 110, 116, 105, 99, 97, 116, 101]⟩, .string ⟨#[80, 114, 111, 120, 121, 45, 65, 117, 116, 104, 111, 114, 105, 122, 97, 116, 105, 111, 110]⟩, .string ⟨#[84, 69]⟩, .string ⟨#[84, 114, 97, 105, 108, 101, 114]⟩, .string ⟨#[84, 114, 97, 110, 115, 102, 101, 114, 45, 69, 110, 99, 111, 100, 105, 110, 103]⟩, .string ⟨#[85, 112, 103, 114, 97, 100, 101]⟩] 9)).heap.size = w.heap.size + 1 := World.size_alloc _ _
  rw [show ⟨#[67, 111, 110, 110, 101, 99, 116, 105, 111, 110]⟩ = connB from rfl] at HT
  obtain ⟨TS, hTS⟩ : ∃ TS, TS = tokF connB fs := ⟨_, rfl⟩
  rw [← hTS] at htl ⊢
  have HTL : Hid ((bsOf TS).length ≤ 1000000000) := by show _ ≤ _; omega
  have HT2 : Hid (∀ W, MaxL W → IsFlds W a c fs → Calls Tryz.prog 100 #[.slice a fs.length c, .string ⟨#[67, 111, 110, 110, 101, 99, 116, 105, 111, 110]⟩] W fun e w' => ∃ u, e = .returned u ∧ w'.ownsRow W.heap.size 9 1 u TS.length (valsOf TS) ∧ Below W.heap.size W w') := by
    show ∀ W, _
    rw [hTS]
    exact HT.out
  clear hTS HT hM hf hok hsum htl
  go_enter Tryz.func79, Tryz.ntmps79
  go_wp2_with fail
  generalize World.alloc w _ = w0 at *
  refine (HT2.out w0 M0.out F0.out).mono ?_
  rintro e w1 ⟨u, rfl, ho, hb1⟩
  have hu : w1.ownsRow w0.heap.size 9 1 u (bsOf TS).length ((bsOf TS).map Value.string) := by rw [← valsOf_bs, bsOf_length]; exact ho
  have L1 := Lib.hid (L0.out.trans (hb1.mono L0.out.size))
  have O1 := Lib.hid (own_below O0.out hb1)
  have hb1' := Lib.hid hb1
  have hg1 := hb1.size
  clear ho hb1 F0 M0 HT2
  rcases own_openS hu with ⟨rfl, hnil⟩ | ⟨g, cap, rfl, hg, hcap, hop, hpa⟩
  · have HD := Lib.hid (delete106_nil w1)
    unfold staysV at HD
    clear hu
    go_wp2_with fail
    refine HD.out.mono ?_
    rintro e w2 ⟨rfl, hb2⟩
    have L2 := Lib.hid (L1.out.trans (hb2.mono L1.out.size))
    have O2 := Lib.hid (own_below O1.out hb2)
    clear hb2 L1 O1 HD
    go_wp2_with (at_builtin; refine wpList_append_own_none rfl _ _ 88 rfl w.heap.size 9 i0 1 Tryz.underlying88 hi _ _ _ rfl O2.out rfl ?_)
    go_ret
    rw [hnil]
    have hr : w2.ownsRow w.heap.size 9 1 (.slice (some ⟨w.heap.size, 0, none⟩) 9 9) (9 + 0) (nineP.map Value.string ++ (goes []).map Value.string) := O2.out
    obtain ⟨b, d, h1, h2⟩ := hopP_row (ts := []) rfl hr
    exact ⟨b, d, by rw [h1]; rfl, h2, L2.out⟩
  · have HD := Lib.hid (delete106 w0 g cap (bsOf TS) HTL.out hg hcap w1 hb1'.out hop hpa)
    unfold staysV at HD
    have HGL := Lib.hid (goes_len (bsOf TS))
    have hT1 := HTL.out
    obtain ⟨n, hn⟩ : ∃ n, n = (goes (bsOf TS)).length := ⟨_, rfl⟩
    have HN := Lib.hid hn
    have hn1 : n ≤ 1000000000 := by have := HGL.out; omega
    rw [← hn] at HD
    clear hu hop hpa hn HGL hT1 hcap
    go_wp2_with fail
    refine HD.out.mono ?_
    rintro e w2 ⟨rfl, hs2, hb2⟩
    have L2 := Lib.hid (L0.out.trans (hb2.mono L0.out.size))
    have O2 := Lib.hid (own_below O0.out hb2)
    have HC : Hid (∀ (k : Nat) u, ((goes (bsOf TS)).map Value.string)[k]? = some u → w2.cell? ((⟨g, 0, none⟩ : Addr).add k) = some u) := by
      intro k u hu
      rw [Addr.add_mid]
      rw [List.getElem?_map] at hu
      obtain ⟨x, hx, rfl⟩ := Option.map_eq_some_iff.1 hu
      obtain h0 | ⟨bk, o, h2, hbk, hc, hcell⟩ := hs2
      · rw [h0] at hx; simp at hx
      · cases h2
        exact hcell k x hx
    have HL : Hid (((goes (bsOf TS)).map Value.string).length = n * 1) := by show _ = _; rw [List.length_map, ← HN.out, Nat.mul_one]
    have H1 : Hid (∀ u ∈ (goes (bsOf TS)).map Value.string, u.oneCell' = true) := by
      intro u hu
      obtain ⟨x, _, rfl⟩ := List.mem_map.1 hu
      rfl
    have hs22 := L2.out.size
    clear hb2 L1 O1 HD L0 O0 hs2 HTL
    go_wp2_with (at_builtin; refine wpList_append_own _ rfl _ _ 88 rfl w.heap.size 9 i0 (.string ⟨#[]⟩) 1 16 Tryz.underlying88 hi hz0 hz1 hz2 rfl (by decide) _ _ _ rfl O2.out ⟨g, 0, none⟩ n cap ((goes (bsOf TS)).map Value.string) rfl HL.out HC.out H1.out (by unfold maxLen; omega) (by omega) hs22 ?_)
    intro v' w3 hown' hgrow _
    have L3 := Lib.hid (L2.out.grown hgrow hs22 (fun k hk => (O2.out.lt k hk).1))
    obtain ⟨b, d, h1, h2⟩ := hopP_row HN.out hown'
    clear hown' hgrow O2 HC HL H1
    go_wp2_with fail
    go_ret
    exact ⟨b, d, by rw [h1]; rfl, h2, L3.out⟩
set_option maxRecDepth 1000000 in
set_option maxHeartbeats 4000000 in
/-- Hops. -/
theorem hops41 (a : Option Addr) (c : Nat) (fs : List Fld) (hfl : fs.length ≤ 1000000) (ha : a = none → c = 0 ∧ fs = []) (hok : ∀ f ∈ fs, FldOk f) (hsum : sumS (allB connB fs) ≤ 900000000) (gs : List Fld) (hgs : gs = hopsR (bsOf (tokF connB fs)) fs) (w : World) (hM : MaxL w) (hf : IsFlds w a c fs) :
    Calls Tryz.prog 41 #[.slice a fs.length c] w fun e w' => ∃ b d, e = .returned (.slice b gs.length d) ∧ (b = none → d = 0 ∧ gs = []) ∧ IsFlds w' b d gs ∧ Below w.heap.size w w' := by
  have HH := Lib.hid (hopNames79 a c fs hfl hok (by omega) w hM hf)
  have HPL : (hopP (bsOf (tokF connB fs))).length ≤ 1000000000 := by
    have h1 := tokF_len connB fs
    have h2 := goes_len (bsOf (tokF connB fs))
    unfold hopP
    rw [List.length_append]
    have : nineP.length = 9 := rfl
    omega
  obtain ⟨HP, hHP⟩ : ∃ HP, HP = hopP (bsOf (tokF connB fs)) := ⟨_, rfl⟩
  have hgs2 : gs = dropL HP fs := by rw [hgs, hHP, hops_eq]
  rw [← hHP] at HH HPL
  rw [hgs2]
  have HD := Lib.hid (fun b d W hx h => drop55 a c fs b d HP (by omega) HPL ha hok W h hx)
  have HF := Lib.hid hf
  clear hHP hgs2 hgs hf hM hok hsum ha HPL
  go_enter Tryz.func41, Tryz.ntmps41
  go_wp2_with fail
  refine HH.out.mono ?_
  rintro e w1 ⟨b1, d1, rfl, hs1, hb1⟩
  have HD1 := Lib.hid (HD.out b1 d1 w1 hs1 (HF.out.below hb1))
  clear HD HH hs1
  go_wp2_with fail
  refine HD1.out.mono ?_
  rintro e w2 ⟨a2, c2, rfl, h0, hf2, hb2⟩
  have H0 := Lib.hid h0
  have F2 := Lib.hid hf2
  have B2 := Lib.hid (hb1.trans (hb2.mono hb1.size))
  clear h0 hf2 hb1 hb2 HD1
  go_wp2_with fail
  go_ret
  exact ⟨a2, c2, rfl, H0.out, F2.out, B2.out⟩
end Go.Proofs.YtbbphklhnngjmaaGreatDoor

/- Memory of an object that lies in some blocks G, its own: what a call that writes there leaves as it was. -/
namespace Go.Proofs.YtbbphklhnngjmaaGreatDoor
open Go.RowKit

/-- Nothing has changed but blocks of G and new ones. -/
structure Keep (G : Nat → Prop) (w w' : World) : Prop where
  os : w'.os = w.os
  tape : w'.tape = w.tape
  output : w'.output = w.output
  size : w.heap.size ≤ w'.heap.size
  block : ∀ k, k < w.heap.size → ¬ G k → w'.heap[k]? = w.heap[k]?
/-- The blocks to come are G's. -/
def Up (G : Nat → Prop) (w : World) : Prop := ∀ k, w.heap.size ≤ k → G k
/-- The first size is small enough for B. -/
def Floor (G : Nat → Prop) (B : Nat) : Prop := ∀ k, G k → B ≤ k
section
variable {G : Nat → Prop} {a w w' : World} {B : Nat}
theorem Keep.refl (G : Nat → Prop) (w : World) : Keep G w w := ⟨rfl, rfl, rfl, Nat.le_refl _, fun _ _ _ => rfl⟩
theorem Keep.trans {b c : World} (h : Keep G a b) (k : Keep G b c) : Keep G a c :=
  ⟨k.os.trans h.os, k.tape.trans h.tape, k.output.trans h.output, Nat.le_trans h.size k.size, fun i hi hn => (k.block i (Nat.lt_of_lt_of_le hi h.size) hn).trans (h.block i hi hn)⟩
theorem Keep.of_below (h : Below w.heap.size w w') : Keep G w w' := ⟨h.os, h.tape, h.output, h.size, fun k hk _ => h.block k hk⟩
theorem Keep.more {G' : Nat → Prop} (h : Keep G w w') (hg : ∀ k, k < w.heap.size → G k → G' k) : Keep G' w w' := ⟨h.os, h.tape, h.output, h.size, fun k hk hn => h.block k hk (fun hk2 => hn (hg k hk hk2))⟩
theorem Keep.bel (h : Keep G w w') (hf : Floor G B) (hB : B ≤ w.heap.size) : Below B w w' :=
  ⟨h.os, h.tape, h.output, h.size, fun k hk => h.block k (by omega) (fun hg => by have := hf k hg; omega)⟩
theorem Keep.grown {row : Option Nat} (hg : w.grownBy w' row) (hr : ∀ k, row = some k → G k) : Keep G w w' :=
  ⟨hg.os, hg.tape, hg.output, hg.size, fun k hk hn => hg.block k hk (fun e => hn (hr k e.symm))⟩
theorem Keep.setCell (w : World) {p : Addr} (hp : G p.block) (u : Value) : Keep G w (w.setCell p u) :=
  ⟨rfl, rfl, rfl, by simp [World.setCell], fun k _ hn => Below.heap_setCell w p u k (fun e => hn (by rw [e]; exact hp))⟩
theorem Keep.alloc (w : World) (o : Obj) : Keep G w (w.alloc o) := .of_below (below_alloc w o)
theorem Keep.drew (w : World) : Keep G w w.drew := ⟨rfl, rfl, rfl, Nat.le_refl _, fun _ _ _ => rfl⟩
theorem Keep.drewN (w : World) (n : Nat) : Keep G w (w.drewN n) := ⟨rfl, rfl, rfl, Nat.le_refl _, fun _ _ _ => rfl⟩
theorem Up.keep (h : Up G w) (hk : Keep G w w') : Up G w' := fun k hk2 => h k (Nat.le_trans hk.size hk2)
theorem Up.below (h : Up G w) (hk : Below w.heap.size w w') : Up G w' := fun k hk2 => h k (Nat.le_trans hk.size hk2)
end

/-- Block g is just these cells; none is frozen. -/
def Row (w : World) (g : Nat) (t : TypeId) (cs : Array Value) : Prop := w.heap[g]? = some (.cells cs t (0, 0))
section
variable {w w' : World} {g : Nat} {t : TypeId} {cs : Array Value} {G : Nat → Prop}
theorem Row.lt (h : Row w g t cs) : g < w.heap.size := (Array.getElem?_eq_some_iff.1 h).1
theorem Row.cell (h : Row w g t cs) (i : Nat) : w.cell? ⟨g, i, none⟩ = cs[i]? := cell_of_row w g i cs t (0, 0) h
theorem Row.free (h : Row w g t cs) (i : Nat) : w.frozen? ⟨g, i, none⟩ = false := by
  unfold Row at h
  simp [World.frozen?, h]
theorem Row.new (w : World) (t : TypeId) (cs : Array Value) : Row (w.alloc (.cells cs t)) w.heap.size t cs := heap_alloc_new w _
theorem Row.keep (h : Row w g t cs) (hk : Keep G w w') (hg : ¬ G g) : Row w' g t cs := (hk.block g h.lt hg).trans h
theorem Row.below (h : Row w g t cs) (hb : Below w.heap.size w w') : Row w' g t cs := (hb.block g h.lt).trans h
theorem Row.grown {row : Option Nat} (h : Row w g t cs) (hb : w.grownBy w' row) (hg : row ≠ some g) : Row w' g t cs := (hb.block g h.lt (fun e => hg e.symm)).trans h
theorem Row.alloc (h : Row w g t cs) (o : Obj) : Row (w.alloc o) g t cs := h.below (below_alloc w o)
theorem Row.put (h : Row w g t cs) (i : Nat) (u : Value) : Row (w.setCell ⟨g, i, none⟩ u) g t (cs.setIfInBounds i u) := by
  unfold Row at h ⊢
  simp [World.setCell, Array.getElem?_modify, h]
theorem Row.far (h : Row w g t cs) {p : Addr} (hp : g ≠ p.block) (u : Value) : Row (w.setCell p u) g t cs := (Below.heap_setCell w p u g hp).trans h
theorem Row.drew (h : Row w g t cs) : Row w.drew g t cs := h
theorem Row.drewN (h : Row w g t cs) (n : Nat) : Row (w.drewN n) g t cs := h
end

/-- A row of elements that the object owns. -/
def Own (w : World) (e : TypeId) (n : Nat) (v : Value) (m : Nat) (xs : List Value) : Prop := w.ownsRow 0 e n v m xs
theorem own_lt {w : World} {e : TypeId} {n m : Nat} {v : Value} {xs : List Value} (h : w.ownsRow 0 e n v m xs) {k : Nat} (hk : v.ownBlock = some k) : k < w.heap.size := (h.lt k hk).2
theorem own_ne {w : World} {e t : TypeId} {n m g : Nat} {v : Value} {xs : List Value} {cs : Array Value} (h : w.ownsRow 0 e n v m xs) (hg : Row w g t cs) (hne : e ≠ t) : v.ownBlock ≠ some g := by
  obtain ⟨_, ⟨rfl, _⟩ | ⟨k, cap, cur, rfl, _, hk, _⟩⟩ := h
  · simp [Value.ownBlock]
  · intro he
    have : k = g := by simpa [Value.ownBlock] using he
    subst this
    unfold Row at hg
    rw [hk] at hg
    injection hg with h2
    injection h2 with _ h3
    exact hne h3
theorem own_keep {w w' : World} {G : Nat → Prop} {e : TypeId} {n m : Nat} {v : Value} {xs : List Value} (h : w.ownsRow 0 e n v m xs) (hk : Keep G w w') (hg : ∀ k, v.ownBlock = some k → ¬ G k) : w'.ownsRow 0 e n v m xs := by
  obtain ⟨hl, h0 | ⟨g, cap, cur, rfl, hb, hc, r⟩⟩ := h
  · exact ⟨hl, .inl h0⟩
  · exact ⟨hl, .inr ⟨g, cap, cur, rfl, hb, (hk.block g (Array.getElem?_eq_some_iff.1 hc).1 (hg g rfl)).trans hc, r⟩⟩
theorem own_bel {w w' : World} {e : TypeId} {n m : Nat} {v : Value} {xs : List Value} (h : w.ownsRow 0 e n v m xs) (hb : Below w.heap.size w w') : w'.ownsRow 0 e n v m xs :=
  own_keep (G := fun _ => False) h (.of_below hb) (fun _ _ h => h)
theorem own_grown {w w' : World} {row : Option Nat} {e : TypeId} {n m : Nat} {v : Value} {xs : List Value} (h : w.ownsRow 0 e n v m xs) (hg : w.grownBy w' row) (hr : ∀ k, v.ownBlock = some k → row ≠ some k) : w'.ownsRow 0 e n v m xs :=
  own_keep (G := fun k => row = some k) h (.grown hg (fun _ h => h)) hr
theorem own_set {w : World} {e t : TypeId} {n m g i : Nat} {v : Value} {xs : List Value} {cs : Array Value} (h : w.ownsRow 0 e n v m xs) (hg : Row w g t cs) (hne : e ≠ t) (u : Value) : (w.setCell ⟨g, i, none⟩ u).ownsRow 0 e n v m xs :=
  own_keep (G := fun k => k = g) h (Keep.setCell (G := fun k => k = g) w (p := ⟨g, i, none⟩) rfl u) (fun k hk e => own_ne h hg hne (by rw [hk, e]))
theorem own_slice {w : World} {base : Nat} {e : TypeId} {n m : Nat} {v : Value} {xs : List Value} (h : w.ownsRow base e n v m xs) : ∃ a c, v = .slice a m c := by
  obtain ⟨_, ⟨rfl, h0⟩ | ⟨g, cap, cur, rfl, _⟩⟩ := h
  · exact ⟨none, 0, by rw [h0]⟩
  · exact ⟨_, _, rfl⟩
theorem own_len {w : World} {base : Nat} {e : TypeId} {n m m' : Nat} {v : Value} {xs : List Value} (h : w.ownsRow base e n v m xs) (he : m = m') : w.ownsRow base e n v m' xs := he ▸ h
end Go.Proofs.YtbbphklhnngjmaaGreatDoor

/- rewrite: response.Own at 503, closing, rewrite.Own, the fixed facts. -/
namespace Go.Proofs.YtbbphklhnngjmaaGreatDoor
open Go.RowKit

theorem isFlds_keepR {G : Nat → Prop} {w w' : World} {a : Option Addr} {c : Nat} {fs : List Fld} (h : IsFlds w a c fs) (hk : Keep G w w') (hg : ∀ ad, a = some ad → ¬ G ad.block) : IsFlds w' a c fs := by
  rcases h with h | ⟨bk, o, rfl, hbk, hc, hcell⟩
  · exact .inl h
  · have hn : ¬ G bk := hg ⟨bk, o, none⟩ rfl
    refine .inr ⟨bk, o, rfl, Nat.lt_of_lt_of_le hbk hk.size, hc, fun j f hj => ?_⟩
    have := hcell j f hj
    unfold World.cell? at this ⊢
    rw [hk.block bk hbk hn]
    exact this
theorem isFlds_new2R (w : World) (a b c d : List UInt8) (T : TypeId) : IsFlds (w.alloc (.cells #[.string (bs a), .string (bs b), .string (bs c), .string (bs d)] T)) (some ⟨w.heap.size, 0, none⟩) 2 [(a, b), (c, d)] := by
  refine .inr ⟨w.heap.size, 0, rfl, by simp, by simp, fun j g hf => ?_⟩
  match j, hf with
  | 0, hf => obtain rfl := Option.some.inj hf; simp
  | 1, hf => obtain rfl := Option.some.inj hf; simp
  | j + 2, hf => simp at hf
theorem isFlds_new3R (w : World) (a b c d e f : List UInt8) (T : TypeId) : IsFlds (w.alloc (.cells #[.string (bs a), .string (bs b), .string (bs c), .string (bs d), .string (bs e), .string (bs f)] T)) (some ⟨w.heap.size, 0, none⟩) 3 [(a, b), (c, d), (e, f)] := by
  refine .inr ⟨w.heap.size, 0, rfl, by simp, by simp, fun j g hf => ?_⟩
  match j, hf with
  | 0, hf => obtain rfl := Option.some.inj hf; simp
  | 1, hf => obtain rfl := Option.some.inj hf; simp
  | 2, hf => obtain rfl := Option.some.inj hf; simp
  | j + 3, hf => simp at hf
/-- What rewrite's fixed facts ask of the world. -/
def LaidR (w : World) : Prop := MaxL w ∧ Pow w ∧ Reas w
theorem LaidR.below {w w' : World} (h : LaidR w) (hb : Below w.heap.size w w') : LaidR w' := ⟨h.1.below hb, h.2.1.below hb, h.2.2.below hb⟩
theorem own_isFldsB {w : World} {base : Nat} {T : TypeId} {v : Value} {fs : List Fld} (h : w.ownsRow base T 2 v fs.length (cellsF fs)) : ∃ a c, v = .slice a fs.length c ∧ c ≤ 9223372036854775807 ∧ (a = none → c = 0 ∧ fs = []) ∧ IsFlds w a c fs ∧ ∀ ad, a = some ad → base ≤ ad.block := by
  have ho2 := h
  obtain ⟨b, d, rfl, h1, h2⟩ := own_isFldsT h
  obtain ⟨_, ⟨h3, _⟩ | ⟨g, cap, cur, h3, hg, _, _, hcm, _⟩⟩ := ho2
  · injection h3 with e1 e2 e3
    subst e1 e3
    exact ⟨none, 0, rfl, by omega, h1, h2, fun ad e => by cases e⟩
  · injection h3 with e1 e2 e3
    subst e1 e3
    exact ⟨_, _, rfl, by unfold maxLen at hcm; omega, h1, h2, fun ad e => by obtain rfl := Option.some.inj e; exact hg⟩
theorem LaidR.m {w : World} (h : LaidR w) : MaxL w := by unfold LaidR at h; exact h.1
theorem LaidR.p {w : World} (h : LaidR w) : Pow w := by unfold LaidR at h; exact h.2.1
theorem LaidR.r {w : World} (h : LaidR w) : Reas w := by unfold LaidR at h; exact h.2.2
def rea503 : List UInt8 := [83, 101, 114, 118, 105, 99, 101, 32, 85, 110, 97, 118, 97, 105, 108, 97, 98, 108, 101]
def bod503 : List UInt8 := [53, 48, 51, 32, 83, 101, 114, 118, 105, 99, 101, 32, 85, 110, 97, 118, 97, 105, 108, 97, 98, 108, 101, 10]
def ctF : Fld := ([67, 111, 110, 116, 101, 110, 116, 45, 84, 121, 112, 101], [116, 101, 120, 116, 47, 112, 108, 97, 105, 110])
def clF : Fld := ([67, 111, 110, 116, 101, 110, 116, 45, 76, 101, 110, 103, 116, 104], [50, 52])
def ccF : Fld := ([67, 111, 110, 110, 101, 99, 116, 105, 111, 110], [99, 108, 111, 115, 101])
theorem reason_503R : reasonL 503 = rea503 := by rfl
theorem prt_503 : prtI 10 503 = [53, 48, 51] := by decide +kernel
theorem prt_24 : prtI 10 24 = [50, 52] := by decide +kernel
theorem own_five {w : World} (g : Nat) (B0 : Nat) {base : World} (hb : Below B0 base w) (hg : B0 ≤ g) (v0 v1 v2 v3 v4 : Value) :
    Below B0 base (((((w.setCell ⟨g, 0, none⟩ v0).setCell ⟨g, 1, none⟩ v1).setCell ⟨g, 2, none⟩ v2).setCell ⟨g, 3, none⟩ v3).setCell ⟨g, 4, none⟩ v4)
    ∧ Keep (fun j => j = g) w (((((w.setCell ⟨g, 0, none⟩ v0).setCell ⟨g, 1, none⟩ v1).setCell ⟨g, 2, none⟩ v2).setCell ⟨g, 3, none⟩ v3).setCell ⟨g, 4, none⟩ v4) := by
  have KB : ∀ (v : World) (i : Nat) (u : Value), Keep (fun j => j = g) v (v.setCell ⟨g, i, none⟩ u) := fun v i u => Keep.setCell (G := fun j => j = g) v (p := ⟨g, i, none⟩) rfl u
  exact ⟨((((hb.setCell (p := ⟨g, 0, none⟩) hg _).setCell (p := ⟨g, 1, none⟩) hg _).setCell (p := ⟨g, 2, none⟩) hg _).setCell (p := ⟨g, 3, none⟩) hg _).setCell (p := ⟨g, 4, none⟩) hg _,
    ((((KB w 0 v0).trans (KB _ 1 v1)).trans (KB _ 2 v2)).trans (KB _ 3 v3)).trans (KB _ 4 v4)⟩
set_option maxRecDepth 100000 in
set_option maxHeartbeats 4000000 in
theorem rown35 (w : World) (hP : Pow w) (hR : Reas w) :
    Calls Tryz.prog 35 #[.int .i64 503] w fun e w' => ∃ g, e = .returned (.agg #[.int .i64 503, .string (bs rea503), .slice (some ⟨g, 0, none⟩) 2 2, .string (bs bod503), .int .i64 1]) ∧ w.heap.size ≤ g ∧ IsFlds w' (some ⟨g, 0, none⟩) 2 [ctF, clF] ∧ Below w.heap.size w w' := by
  have HRE : Hid (∀ W, Reas W → Calls Tryz.prog 72 #[.int .i64 503] W fun e w' => e = .returned (.string (bs rea503)) ∧ Below W.heap.size W w') := fun W h => by
    have := reason22 503 W h
    rwa [reason_503R] at this
  have HD1 : Hid (∀ W, Pow W → Calls Tryz.prog 73 #[.int .i64 503] W fun e w' => e = .returned (.string (bs [53, 48, 51])) ∧ Below W.heap.size W w') := fun W h => by
    have := digits28 503 (by decide) W h
    rw [prt_503] at this
    exact this
  have HD2 : Hid (∀ W, Pow W → Calls Tryz.prog 73 #[.int .i64 24] W fun e w' => e = .returned (.string (bs [50, 52])) ∧ Below W.heap.size W w') := fun W h => by
    have := digits28 24 (by decide) W h
    rw [prt_24] at this
    exact this
  have A1 := fun V => add_str [53, 48, 51] [32] (by decide) V
  have A2 := fun V => add_str [53, 48, 51, 32] rea503 (by decide) V
  have A3 := fun V => add_str ([53, 48, 51, 32] ++ rea503) [10] (by decide) V
  have e32 : bs [32] = ⟨#[32]⟩ := rfl
  have e10 : bs [10] = ⟨#[10]⟩ := rfl
  rw [e32, show ([53, 48, 51] : List UInt8) ++ [32] = [53, 48, 51, 32] from rfl] at A1
  rw [e10, show ([53, 48, 51, 32] : List UInt8) ++ rea503 ++ [10] = bod503 from rfl] at A3
  have hz : (bs bod503).size = 24 := rfl
  have F2 : ∀ W, IsFlds (World.alloc W (.cells #[.string (bs [67, 111, 110, 116, 101, 110, 116, 45, 84, 121, 112, 101]), .string (bs [116, 101, 120, 116, 47, 112, 108, 97, 105, 110]), .string (bs [67, 111, 110, 116, 101, 110, 116, 45, 76, 101, 110, 103, 116, 104]), .string (bs [50, 52])] 62)) (some ⟨W.heap.size, 0, none⟩) 2 [ctF, clF] := fun W => isFlds_new2R W _ _ _ _ _
  have e1 : bs [67, 111, 110, 116, 101, 110, 116, 45, 84, 121, 112, 101] = ⟨#[67, 111, 110, 116, 101, 110, 116, 45, 84, 121, 112, 101]⟩ := rfl
  have e2 : bs [116, 101, 120, 116, 47, 112, 108, 97, 105, 110] = ⟨#[116, 101, 120, 116, 47, 112, 108, 97, 105, 110]⟩ := rfl
  have e3 : bs [67, 111, 110, 116, 101, 110, 116, 45, 76, 101, 110, 103, 116, 104] = ⟨#[67, 111, 110, 116, 101, 110, 116, 45, 76, 101, 110, 103, 116, 104]⟩ := rfl
  rw [e1, e2, e3] at F2
  have FF := Lib.hid F2
  generalize hx5 : bs bod503 = X5 at *
  generalize hx4 : bs ([53, 48, 51, 32] ++ rea503) = X4 at *
  generalize hx3 : bs [53, 48, 51, 32] = X3 at *
  generalize hx2 : bs [53, 48, 51] = X2 at *
  generalize hx1 : bs rea503 = X1 at *
  generalize hx0 : bs [50, 52] = X0 at *
  have R0 := Row.new w 33 #[.int .i64 0, .string ⟨#[]⟩, .slice none 0 0, .string ⟨#[]⟩, .int .i64 0]
  have L0 := below_alloc w (.cells #[.int .i64 0, .string ⟨#[]⟩, .slice none 0 0, .string ⟨#[]⟩, .int .i64 0] 33)
  clear hx5 hx4 hx3 hx2 hx1 hx0 e32 e10 e1 e2 e3 F2
  have HP := Lib.hid (hP.below L0)
  have HR := Lib.hid (hR.below L0)
  clear hP hR
  go_enter Tryz.func35, Tryz.ntmps35
  go_wp2_with fail
  obtain ⟨b0, hb0⟩ : ∃ b0, b0 = w.heap.size := ⟨_, rfl⟩
  have hle : w.heap.size ≤ b0 := Nat.le_of_eq hb0.symm
  have HLE := Lib.hid hle
  rw [← hb0] at R0 ⊢
  generalize World.alloc w _ = w0 at *
  have RR0 := Lib.hid R0
  have LL0 := Lib.hid L0
  clear R0 L0 hb0 hle
  with_reducible refine (HRE.out w0 HR.out).mono ?_
  rintro e w1 ⟨rfl, hb1⟩
  have P1 := Lib.hid (HP.out.below hb1)
  have RR1 := Lib.hid (RR0.out.below hb1)
  have LL1 := Lib.hid (LL0.out.trans (hb1.mono LL0.out.size))
  clear hb1 HP HR RR0 LL0
  go_wp2_with fail
  with_reducible refine (HD1.out w1 P1.out).mono ?_
  rintro e w2 ⟨rfl, hb2⟩
  have P2 := Lib.hid (P1.out.below hb2)
  have RR2 := Lib.hid (RR1.out.below hb2)
  have LL2 := Lib.hid (LL1.out.trans (hb2.mono LL1.out.size))
  clear hb2 P1 RR1 LL1
  go_wp2_with fail
  with_reducible refine (HD2.out w2 P2.out).mono ?_
  rintro e w3 ⟨rfl, hb3⟩
  have RR3 := Lib.hid (RR2.out.below hb3)
  have LL3 := Lib.hid (LL2.out.trans (hb3.mono LL2.out.size))
  clear hb3 P2 RR2 LL2
  have LA := below_alloc w3 (.cells #[.string ⟨#[67, 111, 110, 116, 101, 110, 116, 45, 84, 121, 112, 101]⟩, .string ⟨#[116, 101, 120, 116, 47, 112, 108, 97, 105, 110]⟩, .string ⟨#[67, 111, 110, 116, 101, 110, 116, 45, 76, 101, 110, 103, 116, 104]⟩, .string X0] 62)
  have RA := RR3.out.below LA
  have LL4 := Lib.hid (LL3.out.trans (LA.mono LL3.out.size))
  have F4 := Lib.hid (FF.out w3)
  have hne : b0 ≠ w3.heap.size := Nat.ne_of_lt RR3.out.lt
  have HNE := Lib.hid hne
  have z0 := RA.free 0
  have z1 := RA.free 1
  have z2 := RA.free 2
  have z3 := RA.free 3
  have z4 := RA.free 4
  have p0 := RA.cell 0
  have p1 := RA.cell 1
  have p2 := RA.cell 2
  have p3 := RA.cell 3
  have p4 := RA.cell 4
  simp only [List.getElem?_toArray, List.getElem?_cons_zero, List.getElem?_cons_succ] at p0 p1 p2 p3 p4
  clear LA RA hne FF
  go_wp2_with fail
  refine bodyPost_ret (v := .agg #[.int .i64 503, .string X1, .slice (some ⟨w3.heap.size, 0, none⟩) 2 2, .string X5, .int .i64 1]) (by simp [results, Tryz.results35, go_sem, p0, p1, p2, p3, p4]) rfl ⟨_, rfl, LL3.out.size, ?_⟩
  have h5 := own_five b0 _ LL4.out HLE.out (.int .i64 503) (.string X1) (.slice (some ⟨w3.heap.size, 0, none⟩) 2 2) (.string X5) (.int .i64 1)
  exact ⟨isFlds_keepR F4.out h5.2 (fun ad had => by obtain rfl := Option.some.inj had; exact fun e => HNE.out e.symm), h5.1⟩
/-- The fields with Connection: close added. -/
def closeF (q : Bool) (fs : List Fld) : List Fld := if q = true then fs ++ [ccF] else fs
set_option maxRecDepth 100000 in
set_option maxHeartbeats 4000000 in
theorem closing65 (c k : Int) (r bb : ByteArray) (a : Option Addr) (d : Nat) (fs : List Fld) (q : Bool) (hfl : fs.length ≤ 1000000) (ha : a = none → d = 0 ∧ fs = []) (w : World) (hf : IsFlds w a d fs) :
    Calls Tryz.prog 65 #[.agg #[.int .i64 c, .string r, .slice a fs.length d, .string bb, .int .i64 k], .bool q] w fun e w' => ∃ b d', e = .returned (.agg #[.int .i64 c, .string r, .slice b (closeF q fs).length d', .string bb, .int .i64 k]) ∧ (b = none → d' = 0 ∧ closeF q fs = []) ∧ IsFlds w' b d' (closeF q fs) ∧ Below w.heap.size w w' := by
  have HA : Hid (∀ W, IsFlds W a d fs → Calls Tryz.prog 46 #[.slice a fs.length d, .string ⟨#[67, 111, 110, 110, 101, 99, 116, 105, 111, 110]⟩, .string ⟨#[99, 108, 111, 115, 101]⟩] W fun e w' => ∃ u, e = .returned u ∧ w'.ownsRow W.heap.size 62 2 u (fs ++ [ccF]).length (cellsF (fs ++ [ccF])) ∧ Below W.heap.size W w') := fun W h => add48 a d fs [67, 111, 110, 110, 101, 99, 116, 105, 111, 110] [99, 108, 111, 115, 101] (by omega) ha W h
  have HN := Lib.hid ha
  have HF0 := Lib.hid hf
  obtain ⟨n, hn⟩ : ∃ n, n = fs.length := ⟨_, rfl⟩
  rw [← hn] at HA ⊢
  have HNN := Lib.hid hn
  have R0 := Row.new w 33 #[.int .i64 c, .string r, .slice a n d, .string bb, .int .i64 k]
  have L0 := (below_alloc w (.cells #[.int .i64 c, .string r, .slice a n d, .string bb, .int .i64 k] 33))
  have R1 := Row.new (w.alloc (.cells #[.int .i64 c, .string r, .slice a n d, .string bb, .int .i64 k] 33)) 33 #[.int .i64 0, .string ⟨#[]⟩, .slice none 0 0, .string ⟨#[]⟩, .int .i64 0]
  have L1 := L0.alloc (by simp) (.cells #[.int .i64 0, .string ⟨#[]⟩, .slice none 0 0, .string ⟨#[]⟩, .int .i64 0] 33)
  have R0' := R0.alloc (.cells #[.int .i64 0, .string ⟨#[]⟩, .slice none 0 0, .string ⟨#[]⟩, .int .i64 0] 33)
  rw [show (w.alloc (.cells #[.int .i64 c, .string r, .slice a n d, .string bb, .int .i64 k] 33)).heap.size = w.heap.size + 1 by simp] at R1
  have HF := Lib.hid (hf.below L1)
  clear hf hn ha R0 L0
  go_enter Tryz.func65, Tryz.ntmps65
  go_upto_region 1 with fail
  obtain ⟨b0, hb0⟩ : ∃ b0, b0 = w.heap.size := ⟨_, rfl⟩
  obtain ⟨b1, hb1⟩ : ∃ b1, b1 = w.heap.size + 1 := ⟨_, rfl⟩
  have hle : w.heap.size ≤ b1 := by omega
  have hle0 : w.heap.size ≤ b0 := by omega
  have hne : b0 ≠ b1 := by omega
  rw [← hb0] at R0'
  rw [← hb1] at R1 ⊢
  rw [← hb0]
  generalize World.alloc (World.alloc w _) _ = w1 at *
  have LL := Lib.hid L1
  have HLE := Lib.hid hle
  have HLE0 := Lib.hid hle0
  have HNE := Lib.hid hne
  have HB0 : Hid (b0 < w1.heap.size) := R0'.lt
  have HB1 : Hid (b1 < w1.heap.size) := R1.lt
  have RR0 := Lib.hid R0'
  have RR1 := Lib.hid R1
  clear R1 R0' L1 hb0 hb1 hle hle0 hne
  cases q
  · skip
    have r0 := RR0.out.cell 0
    have r1 := RR0.out.cell 1
    have r2 := RR0.out.cell 2
    have r3 := RR0.out.cell 3
    have r4 := RR0.out.cell 4
    have z0 := RR1.out.free 0
    have z1 := RR1.out.free 1
    have z2 := RR1.out.free 2
    have z3 := RR1.out.free 3
    have z4 := RR1.out.free 4
    have p0 := RR1.out.cell 0
    have p1 := RR1.out.cell 1
    have p2 := RR1.out.cell 2
    have p3 := RR1.out.cell 3
    have p4 := RR1.out.cell 4
    simp only [List.getElem?_toArray, List.getElem?_cons_zero, List.getElem?_cons_succ] at r0 r1 r2 r3 r4 p0 p1 p2 p3 p4
    go_wp2_with fail
    refine bodyPost_ret (v := .agg #[.int .i64 c, .string r, .slice a n d, .string bb, .int .i64 k]) (by simp [results, Tryz.results65, go_sem, p0, p1, p2, p3, p4]) rfl ⟨a, d, by rw [HNN.out]; rfl, HN.out, ?_⟩
    have h5 := own_five b1 _ LL.out HLE.out (.int .i64 c) (.string r) (.slice a n d) (.string bb) (.int .i64 k)
    exact ⟨HF0.out.below h5.1, h5.1⟩
  · have r2 := RR0.out.cell 2
    simp only [List.getElem?_toArray, List.getElem?_cons_zero, List.getElem?_cons_succ] at r2
    go_wp2_with fail
    with_reducible refine (HA.out w1 HF.out).mono ?_
    rintro e w2 ⟨u, rfl, ho, hb⟩
    obtain ⟨b, d', rfl, _, hbn, hf2, hbl⟩ := own_isFldsB ho
    have hl2 : (fs ++ [ccF]).length = n + 1 := by rw [List.length_append, ← HNN.out]; rfl
    rw [hl2]
    have Q0 := RR0.out.below hb
    have Q1 := RR1.out.below hb
    have LL2 := Lib.hid ((LL.out.trans (hb.mono LL.out.size)).setCell (p := ⟨b0, 2, none⟩) HLE0.out (.slice b (n + 1) d'))
    have K2 : Keep (fun j => j = b0) w2 (w2.setCell ⟨b0, 2, none⟩ (.slice b (n + 1) d')) := Keep.setCell (G := fun j => j = b0) w2 (p := ⟨b0, 2, none⟩) rfl _
    have F3 := Lib.hid (isFlds_keepR hf2 K2 (fun ad had => by have := hbl ad had; have := HB0.out; intro e; omega))
    have HBL : Hid (∀ ad, b = some ad → b1 < ad.block) := fun ad had => by have := hbl ad had; have := HB1.out; omega
    have HBN := Lib.hid hbn
    have y2 := Q0.free 2
    have x2 := Q0.cell 2
    have Q0' := Q0.put 2 (.slice b (n + 1) d')
    have Q1' := Q1.far (p := ⟨b0, 2, none⟩) (fun e => HNE.out e.symm) (.slice b (n + 1) d')
    have e0 : (#[.int .i64 c, .string r, .slice a n d, .string bb, .int .i64 k] : Array Value).setIfInBounds 2 (.slice b (n + 1) d') = #[.int .i64 c, .string r, .slice b (n + 1) d', .string bb, .int .i64 k] := rfl
    rw [e0] at Q0'
    simp only [List.getElem?_toArray, List.getElem?_cons_zero, List.getElem?_cons_succ] at x2
    clear hf2 K2 hbn hbl ho hb Q0 Q1 e0 HF r2 hl2
    go_upto_region 3 with fail
    obtain ⟨w3, hw3⟩ : ∃ w3, w3 = w2.setCell ⟨b0, 2, none⟩ (.slice b (n + 1) d') := ⟨_, rfl⟩
    rw [← hw3] at LL2 F3 Q0' Q1' ⊢
    clear hw3 x2 y2
    have r0 := Q0'.cell 0
    have r1 := Q0'.cell 1
    have r2 := Q0'.cell 2
    have r3 := Q0'.cell 3
    have r4 := Q0'.cell 4
    have z0 := Q1'.free 0
    have z1 := Q1'.free 1
    have z2 := Q1'.free 2
    have z3 := Q1'.free 3
    have z4 := Q1'.free 4
    have p0 := Q1'.cell 0
    have p1 := Q1'.cell 1
    have p2 := Q1'.cell 2
    have p3 := Q1'.cell 3
    have p4 := Q1'.cell 4
    simp only [List.getElem?_toArray, List.getElem?_cons_zero, List.getElem?_cons_succ] at r0 r1 r2 r3 r4 p0 p1 p2 p3 p4
    clear Q0' Q1'
    go_wp2_with fail
    refine bodyPost_ret (v := .agg #[.int .i64 c, .string r, .slice b (n + 1) d', .string bb, .int .i64 k]) (by simp [results, Tryz.results65, go_sem, p0, p1, p2, p3, p4]) rfl ⟨b, d', by rw [HNN.out]; unfold closeF; rw [if_pos rfl, List.length_append]; rfl, HBN.out, ?_⟩
    have h5 := own_five b1 _ LL2.out HLE.out (.int .i64 c) (.string r) (.slice b (n + 1) d') (.string bb) (.int .i64 k)
    exact ⟨isFlds_keepR F3.out h5.2 (fun ad had => by have := HBL.out ad had; intro e; omega), h5.1⟩
end Go.Proofs.YtbbphklhnngjmaaGreatDoor

