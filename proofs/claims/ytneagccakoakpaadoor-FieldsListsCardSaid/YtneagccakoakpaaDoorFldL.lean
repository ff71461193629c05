/- fields: Set. -/
import Derived.Test.YtneagccakoakpaaDoorFldK
namespace Go.Proofs.YtneagccakoakpaaDoor
open Go.RowKit

/-- The fields with the given one in place of all of its name. -/
def setF (n v : List UInt8) (fs : List Fld) : List Fld :=
  let i := findI [bs n] fs
  if 0 ≤ i then fs.take i.toNat ++ ((n, v) :: dropL [bs n] (fs.drop (i.toNat + 1))) else fs ++ [(n, v)]
/-- What holds while the region runs. -/
structure SetS (W : World) (bk o c i : Nat) (fs : List Fld) (n v : List UInt8) (ds : List Fld) (L : Nat → Bool) (x : Nat → Value) (w : World) : Prop where
  bel : Below W.heap.size W w
  p6 : L 6 = true → ∃ b, x 6 = .slice (some ⟨b, 0, none⟩) 1 1 ∧ IsFlds w (some ⟨b, 0, none⟩) 1 [(n, v)]
  p12 : L 12 = true → ∃ b, x 12 = .slice (some ⟨b, 0, none⟩) 1 1 ∧ IsStrs w (some ⟨b, 0, none⟩) 1 [bs n]
  p13 : L 13 = true → ∃ a' c', x 13 = .slice a' ds.length c' ∧ (a' = none → c' = 0 ∧ ds = []) ∧ IsFlds w a' c' ds
  p14 : L 14 = true → ∃ g b a' c', x 14 = .slice (some ⟨g, 0, none⟩) 3 3 ∧ g < w.heap.size ∧ w.cell? ⟨g, 0, none⟩ = some (.slice (some ⟨bk, o, none⟩) i c) ∧ w.cell? ⟨g, 1, none⟩ = some (.slice (some ⟨b, 0, none⟩) 1 1) ∧ w.cell? ⟨g, 2, none⟩ = some (.slice a' ds.length c') ∧ IsFlds w (some ⟨b, 0, none⟩) 1 [(n, v)] ∧ (a' = none → c' = 0 ∧ ds = []) ∧ IsFlds w a' c' ds
  p15 : L 15 = true → w.ownsRow W.heap.size 42 2 (x 15) (fs.take i ++ ((n, v) :: ds)).length (cellsF (fs.take i ++ ((n, v) :: ds)))
theorem SetS.below {W : World} {bk o c i : Nat} {fs : List Fld} {n v : List UInt8} {ds : List Fld} {L : Nat → Bool} {x : Nat → Value} {w w' : World} (h : SetS W bk o c i fs n v ds L x w) (hb : Below w.heap.size w w') : SetS W bk o c i fs n v ds L x w' := by
  refine ⟨h.bel.trans (hb.mono h.bel.size), fun e => ?_, fun e => ?_, fun e => ?_, fun e => ?_, fun e => own_below (h.p15 e) hb⟩
  · obtain ⟨b, h1, h2⟩ := h.p6 e; exact ⟨b, h1, h2.below hb⟩
  · obtain ⟨b, h1, h2⟩ := h.p12 e; exact ⟨b, h1, h2.below hb⟩
  · obtain ⟨a', c', h1, h2, h3⟩ := h.p13 e; exact ⟨a', c', h1, h2, h3.below hb⟩
  · obtain ⟨g, b, a', c', h1, h2, h3, h4, h5, h6, h7, h8⟩ := h.p14 e
    obtain ⟨hc, _⟩ := bcell hb
    exact ⟨g, b, a', c', h1, Nat.lt_of_lt_of_le h2 hb.size, by rw [hc _ _ h2]; exact h3, by rw [hc _ _ h2]; exact h4, by rw [hc _ _ h2]; exact h5, h6.below hb, h7, h8.below hb⟩
theorem SetS.keep {W : World} {bk o c i : Nat} {fs : List Fld} {n v : List UInt8} {ds : List Fld} {L : Nat → Bool} {x : Nat → Value} {w : World} (h : SetS W bk o c i fs n v ds L x w) (k : Nat) (u : Value) (h6 : k ≠ 6) (h12 : k ≠ 12) (h13 : k ≠ 13) (h14 : k ≠ 14) (h15 : k ≠ 15) :
    SetS W bk o c i fs n v ds (setL L k) (updV x k u) w := by
  refine ⟨h.bel, fun e => ?_, fun e => ?_, fun e => ?_, fun e => ?_, fun e => ?_⟩
  · simp only [setL, if_neg (Ne.symm h6)] at e; simp only [updV, if_neg (Ne.symm h6)]; exact h.p6 e
  · simp only [setL, if_neg (Ne.symm h12)] at e; simp only [updV, if_neg (Ne.symm h12)]; exact h.p12 e
  · simp only [setL, if_neg (Ne.symm h13)] at e; simp only [updV, if_neg (Ne.symm h13)]; exact h.p13 e
  · simp only [setL, if_neg (Ne.symm h14)] at e; simp only [updV, if_neg (Ne.symm h14)]; exact h.p14 e
  · simp only [setL, if_neg (Ne.symm h15)] at e; simp only [updV, if_neg (Ne.symm h15)]; exact h.p15 e
theorem IsFlds.take {w : World} {a : Option Addr} {c : Nat} {fs : List Fld} (h : IsFlds w a c fs) (i : Nat) : IsFlds w a c (fs.take i) := by
  obtain rfl | ⟨bk, o, ha, hlt, hc, hcell⟩ := h
  · exact .inl (by simp)
  · refine .inr ⟨bk, o, ha, hlt, by rw [List.length_take]; omega, fun j f hf => hcell j f ?_⟩
    rw [List.getElem?_take] at hf
    split at hf
    · exact hf
    · cases hf
theorem IsFlds.drop {w : World} {bk o c : Nat} {fs : List Fld} (h : IsFlds w (some ⟨bk, o, none⟩) c fs) (i : Nat) : IsFlds w (some ⟨bk, o + i * 2, none⟩) (c - i) (fs.drop i) := by
  obtain rfl | ⟨bk', o', ha, hlt, hc, hcell⟩ := h
  · exact .inl (by simp)
  · cases ha
    refine .inr ⟨bk, o + i * 2, rfl, hlt, by rw [List.length_drop]; omega, fun j f hf => ?_⟩
    rw [List.getElem?_drop] at hf
    have := hcell (i + j) f hf
    rw [Nat.add_mul] at this
    rw [Nat.add_assoc o, ]
    exact this

set_option maxHeartbeats 4000000 in
set_option maxRecDepth 100000 in
theorem set46 (a : Option Addr) (c : Nat) (fs : List Fld) (n v : List UInt8) (hfl : fs.length ≤ 100000000) (hcm : c ≤ 9223372036854775807) (ha : a = none → c = 0 ∧ fs = []) (hok : ∀ f ∈ fs, FldOk f) (w : World) (hf : IsFlds w a c fs) :
    Calls Tryd.prog 46 #[.slice a fs.length c, .string (bs n), .string (bs v)] w fun e w' => ∃ u, e = .returned u ∧ w'.ownsRow w.heap.size 42 2 u (setF n v fs).length (cellsF (setF n v fs)) ∧ Below w.heap.size w w' := by
  have HI := Lib.hid (index71 a c fs (bs n) (by omega) hok w hf)
  rcases findI_cases [bs n] fs with ⟨hi, hno⟩ | ⟨i, hil, hi, hyes, hno⟩
  · have hset : setF n v fs = fs ++ [(n, v)] := by unfold setF; simp [hi]
    rw [hset]
    rw [hi] at HI
    have HA := Lib.hid (fun W hb => add48 a c fs n v hfl ha W (hf.below hb))
    have hadd : ∀ W, Below w.heap.size w W → Calls Tryd.prog 48 #[.slice a fs.length c, .string (bs n), .string (bs v)] W fun e w' => ∃ u, e = .returned u ∧ w'.ownsRow w.heap.size 42 2 u (fs ++ [(n, v)]).length (cellsF (fs ++ [(n, v)])) ∧ Below w.heap.size w w' := fun W hb =>
      (HA.out W hb).mono fun e w' ⟨u, h1, h2, h3⟩ => ⟨u, h1, own_mono h2 hb.size, hb.trans (h3.mono hb.size)⟩
    have HD := Lib.hid hadd
    clear HA hadd hset hi hno hf ha hok
    generalize fs ++ [(n, v)] = out at *
    go_enter Tryd.func46, Tryd.ntmps46
    go_wp2_with fail
    refine HI.out.mono ?_
    rintro e W ⟨rfl, hb⟩
    go_wp2_with fail
    refine (HD.out W hb).mono ?_
    rintro e w2 ⟨u, rfl, ho, hb2⟩
    have HO := Lib.hid ho
    clear ho
    go_wp2_with fail
    go_ret
    exact ⟨_, rfl, HO.out, hb2⟩
  · rw [hi] at HI
    obtain h0 | ⟨bk, o, rfl, hbk, hc, hcell⟩ := hf
    · subst h0; simp at hil
    have hf : IsFlds w (some ⟨bk, o, none⟩) c fs := .inr ⟨bk, o, rfl, hbk, hc, hcell⟩
    obtain ⟨ds, hds⟩ : ∃ ds, ds = dropL [bs n] (fs.drop (i + 1)) := ⟨_, rfl⟩
    have hset : setF n v fs = fs.take i ++ ((n, v) :: ds) := by unfold setF; simp [hi, hds]
    rw [hset]
    have hdl : ds.length ≤ 100000000 := by
      have : ds.length ≤ (fs.drop (i + 1)).length := by rw [hds]; unfold dropL; exact List.length_filter_le _ _
      rw [List.length_drop] at this
      omega
    have HF := Lib.hid hf
    have HOK := Lib.hid hok
    have HDS := Lib.hid hds
    have HDL := Lib.hid hdl
    clear hset hds hdl hi hyes hno hcell ha hok
    have i1 : ((i : Int) < 0) = False := by simp <;> omega
    have i2 : (i : Int) < fs.length := by omega
    have i3 : (fs.length : Int) ≤ c := by omega
    have i4 : (c : Int) ≤ 9223372036854775807 := by omega
    have i5 : (fs.length : Int) ≤ 100000000 := by omega
    go_enter Tryd.func46, Tryd.ntmps46
    go_wp2_with fail
    refine HI.out.mono ?_
    rintro e W ⟨rfl, hb⟩
    have HF2 : Hid (IsFlds W (some ⟨bk, o, none⟩) c fs) := HF.out.below hb
    clear HF HI hf
    go_wp2_with fail
    have n1 : i ≤ c := by omega
    have E3 : IntKind.i64.wrap ((i : Int) + 1) = (i : Int) + 1 := IntWalk.i64_in _ (by omega)
    obtain ⟨TA, hta⟩ : ∃ TA : Option Addr, TA = if c = i + 1 then some ⟨bk, o, none⟩ else some ⟨bk, o + (i + 1) * 2, none⟩ := ⟨_, rfl⟩
    have HTA := Lib.hid hta
    have TN : Hid (TA ≠ none) := by show _ ≠ _; rw [hta]; split <;> exact fun h => nomatch h
    have TD : Hid (∀ W, IsFlds W (some ⟨bk, o, none⟩) c fs → IsFlds W TA (c - (i + 1)) (fs.drop (i + 1))) := fun W h => by
      rw [hta]
      by_cases he : c = i + 1
      · exact .inl (List.drop_eq_nil_of_le (by omega))
      · rw [if_neg he]; exact h.drop (i + 1)
    clear hta
    refine region_mixt 16 [some (.slice (some ⟨bk, o, none⟩) fs.length c), some (.int .i64 (i : Int)), some (.slice (some ⟨bk, o, none⟩) i c), some (.string (bs n)), some (.string (bs v)), some (.agg #[.string (bs n), .string (bs v)]), none, some (.slice (some ⟨bk, o, none⟩) fs.length c), some (.int .i64 (i : Int)), some (.int .i64 ((i : Int) + 1)), some (.slice TA (fs.length - (i + 1)) (c - (i + 1))), some (.string (bs n)), none, none, none, none]
      [[false, false, false, false, false, false, false, false, false, false, false, false, false, false, false, false], [false, false, false, false, false, false, false, false, false, false, false, false, false, false, false, false], [true, true, false, false, false, false, false, false, false, false, false, false, false, false, false, false], [false, false, false, false, false, false, false, false, false, false, false, false, false, false, false, false], [false, false, false, false, false, false, false, false, false, false, false, false, false, false, false, false], [false, false, false, true, true, false, false, false, false, false, false, false, false, false, false, false], [false, false, false, false, false, true, false, false, false, false, false, false, false, false, false, false], [false, false, false, false, false, false, false, false, false, false, false, false, false, false, false, false], [false, false, false, false, false, false, false, false, false, false, false, false, false, false, false, false], [false, false, false, false, false, false, false, false, true, false, false, false, false, false, false, false], [false, false, false, false, false, false, false, true, false, true, false, false, false, false, false, false], [false, false, false, false, false, false, false, false, false, false, false, false, false, false, false, false], [false, false, false, false, false, false, false, false, false, false, false, true, false, false, false, false], [false, false, false, false, false, false, false, false, false, false, true, false, true, false, false, false], [false, false, true, false, false, false, true, false, false, false, false, false, false, true, false, false], [false, false, false, false, false, false, false, false, false, false, false, false, false, true, true, false]]
      (fun L x w1 => SetS W bk o c i fs n v ds L x w1)
      (by kernel_rfl) (by kernel_rfl) (by kernel_rfl) (by kernel_rfl) (by kernel_rfl) (by decide) ?_ ?_ ?_
    · intro _
      exact ⟨(Below.refl _ _).drew, fun h => (by cases h), fun h => (by cases h), fun h => (by cases h), fun h => (by cases h), fun h => (by cases h)⟩
    · simp only [List.take_succ_cons, List.take_zero]
      refine ⟨?_, ?_, ?_, ?_, ?_, ?_, ?_, ?_, ?_, ?_, ?_, ?_, ?_, ?_, ?_, ?_, trivial⟩
      all_goals
        intro L x w9 hS hl hp K hK
        have hs : SetS W bk o c i fs n v ds L x w9 := hS
        clear hS
        replace hK := hK.out
        simp only [actMix, pickV, List.tail_cons, List.headD_cons, Act.put, List.setIfInBounds_toArray, List.set_cons_zero, List.set_cons_succ] at hK ⊢
      iterate 2
        · clear hp
          go_simp
          with_reducible refine hK _ ?_
          exact hs.keep _ _ (by decide) (by decide) (by decide) (by decide) (by decide)
      · clear hp
        go_simp
        with_reducible refine hK _ ?_
        exact hs.keep _ _ (by decide) (by decide) (by decide) (by decide) (by decide)
      iterate 3
        · clear hp
          go_simp
          with_reducible refine hK _ ?_
          exact hs.keep _ _ (by decide) (by decide) (by decide) (by decide) (by decide)
      · clear hp
        go_simp
        with_reducible refine hK _ _ ?_
        have hb8 := below_alloc w9 (.cells #[.string (bs n), .string (bs v)] 42)
        have hs2 := hs.below hb8
        refine ⟨hs2.bel, fun _ => ⟨w9.heap.size, by simp [updV], isFlds_new1 w9 n v _⟩, fun h => ?_, fun h => ?_, fun h => ?_, fun h => ?_⟩
        · simpa [updV] using hs2.p12 (by simpa [setL] using h)
        · simpa [updV] using hs2.p13 (by simpa [setL] using h)
        · simpa [updV] using hs2.p14 (by simpa [setL] using h)
        · simpa [updV] using hs2.p15 (by simpa [setL] using h)
      iterate 2
        · clear hp
          go_simp
          with_reducible refine hK _ ?_
          exact hs.keep _ _ (by decide) (by decide) (by decide) (by decide) (by decide)
      · clear hp
        have e3 := E3
        go_simp
        with_reducible refine hK _ ?_
        exact hs.keep _ _ (by decide) (by decide) (by decide) (by decide) (by decide)
      · clear hp
        go_simp
        rw [if_pos ⟨by omega, by omega⟩, ← HTA.out]
        simp only [Oper.upon_value, Act.put, List.setIfInBounds_toArray, List.set_cons_zero, List.set_cons_succ]
        with_reducible refine hK _ ?_
        exact hs.keep _ _ (by decide) (by decide) (by decide) (by decide) (by decide)
      · clear hp
        go_simp
        with_reducible refine hK _ ?_
        exact hs.keep _ _ (by decide) (by decide) (by decide) (by decide) (by decide)
      · clear hp
        go_simp
        with_reducible refine hK _ _ ?_
        have hb8 := below_alloc w9 (.cells #[.string (bs n)] 9)
        have hs2 := hs.below hb8
        refine ⟨hs2.bel, fun h => ?_, fun _ => ⟨w9.heap.size, by simp [updV], isStrs_new1 w9 (bs n) _⟩, fun h => ?_, fun h => ?_, fun h => ?_⟩
        · simpa [updV] using hs2.p6 (by simpa [setL] using h)
        · simpa [updV] using hs2.p13 (by simpa [setL] using h)
        · simpa [updV] using hs2.p14 (by simpa [setL] using h)
        · simpa [updV] using hs2.p15 (by simpa [setL] using h)
      · have h12 : L 12 = true := allL_mem hp 12 (by decide +kernel)
        obtain ⟨b12, hx12, hS12⟩ := hs.p12 h12
        have hf9 : IsFlds w9 (some ⟨bk, o, none⟩) c fs := HF2.out.below hs.bel
        clear hp
        rw [hx12] at hK ⊢
        go_simp
        have hdrop := drop55 TA (c - (i + 1)) (fs.drop (i + 1)) (some ⟨b12, 0, none⟩) 1 [bs n] (by rw [List.length_drop]; omega) (by simp) (fun h => absurd h TN.out) (fun f hf => HOK.out f (List.mem_of_mem_drop hf)) w9 (TD.out _ hf9) hS12
        rw [List.length_drop, ← HDS.out] at hdrop
        refine hdrop.mono ?_
        rintro e w8 ⟨a', c', rfl, hn8, hf8, hb8⟩
        have hs2 := hs.below hb8
        with_reducible refine hK _ _ ?_
        refine ⟨hs2.bel, fun h => ?_, fun h => ?_, fun _ => ⟨a', c', by simp [updV], hn8, hf8⟩, fun h => ?_, fun h => ?_⟩
        · simpa [updV] using hs2.p6 (by simpa [setL] using h)
        · simpa [updV] using hs2.p12 (by simpa [setL] using h)
        · simpa [updV] using hs2.p14 (by simpa [setL] using h)
        · simpa [updV] using hs2.p15 (by simpa [setL] using h)
      · have h6 : L 6 = true := allL_mem hp 6 (by decide +kernel)
        have h13 : L 13 = true := allL_mem hp 13 (by decide +kernel)
        obtain ⟨b6, hx6, hS6⟩ := hs.p6 h6
        obtain ⟨a', c', hx13, hn13, hS13⟩ := hs.p13 h13
        clear hp
        rw [hx6, hx13] at hK ⊢
        go_simp
        with_reducible refine hK _ _ ?_
        have hb8 := below_alloc w9 (.cells #[.slice (some ⟨bk, o, none⟩) i c, .slice (some ⟨b6, 0, none⟩) 1 1, .slice a' ds.length c'] 52)
        have hs2 := hs.below hb8
        refine ⟨hs2.bel, fun h => ?_, fun h => ?_, fun h => ?_, fun _ => ⟨w9.heap.size, b6, a', c', by simp [updV], by simp, by simp, by simp, by simp, hS6.below hb8, hn13, hS13.below hb8⟩, fun h => ?_⟩
        · simpa [updV] using hs2.p6 (by simpa [setL] using h)
        · simpa [updV] using hs2.p12 (by simpa [setL] using h)
        · simpa [updV] using hs2.p13 (by simpa [setL] using h)
        · simpa [updV] using hs2.p15 (by simpa [setL] using h)
      · have h14 : L 14 = true := allL_mem hp 14 (by decide +kernel)
        obtain ⟨g, b6, a', c', hx14, hg9, hc0, hc1, hc2, hS6, hn13, hS13⟩ := hs.p14 h14
        clear hp
        rw [hx14] at hK ⊢
        go_simp
        have hfp : flatP [(some ⟨bk, o, none⟩, c, fs.take i), (some ⟨b6, 0, none⟩, 1, [(n, v)]), (a', c', ds)] = fs.take i ++ ((n, v) :: ds) := by simp [flatP]
        have hlt9 : (fs.take i).length = i := by rw [List.length_take]; omega
        have hcon := concat73 g [(some ⟨bk, o, none⟩, c, fs.take i), (some ⟨b6, 0, none⟩, 1, [(n, v)]), (a', c', ds)] (by simp) (by have := HDL.out; rw [hfp, List.length_append, hlt9, List.length_cons]; omega) w9 hg9
          (fun j p hp => by
            match j, hp with
            | 0, hp => obtain rfl := Option.some.inj hp; rw [hc0]; simp only [partV, hlt9]
            | 1, hp => obtain rfl := Option.some.inj hp; rw [hc1]; rfl
            | 2, hp => obtain rfl := Option.some.inj hp; rw [hc2]; rfl
            | j + 3, hp => simp at hp)
          (fun p hp => by
            simp only [List.mem_cons, List.not_mem_nil, or_false] at hp
            rcases hp with rfl | rfl | rfl
            · exact ⟨(HF2.out.below hs.bel).take i, fun h => by cases h⟩
            · exact ⟨hS6, fun h => by cases h⟩
            · exact ⟨hS13, hn13⟩)
        rw [hfp] at hcon
        refine hcon.mono ?_
        rintro e w8 ⟨u, rfl, ho8, hb8⟩
        have hs2 := hs.below hb8
        with_reducible refine hK _ _ ?_
        refine ⟨hs2.bel, fun h => ?_, fun h => ?_, fun h => ?_, fun h => ?_, fun _ => ?_⟩
        · simpa [updV] using hs2.p6 (by simpa [setL] using h)
        · simpa [updV] using hs2.p12 (by simpa [setL] using h)
        · simpa [updV] using hs2.p13 (by simpa [setL] using h)
        · simpa [updV] using hs2.p14 (by simpa [setL] using h)
        · have := own_mono ho8 hs.bel.size
          simpa [updV] using this
    · intro L x w9 hS hL
      have hs : SetS W bk o c i fs n v ds L x w9 := hS
      have HO := Lib.hid (own_mono (hs.p15 (hL 15 (by decide))) hb.size)
      have hbel := hb.trans (hs.bel.mono hb.size)
      clear hS hs hL
      simp only [actMix, pickV, List.tail_cons, List.headD_cons, Act.put, List.setIfInBounds_toArray, List.set_cons_zero, List.set_cons_succ, List.replicate_succ, List.replicate_zero, List.drop_succ_cons, List.drop_zero, List.take_succ_cons, List.take_zero] 
      generalize x 15 = u at *
      go_wp2_with fail
      go_ret
      exact ⟨_, rfl, HO.out, hbel⟩
end Go.Proofs.YtneagccakoakpaaDoor
