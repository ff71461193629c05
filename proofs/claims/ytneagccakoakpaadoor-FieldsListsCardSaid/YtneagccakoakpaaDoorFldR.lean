/- fields' Get, Has, Size, All; the reference's All. -/
import Derived.Test.YtneagccakoakpaaDoorFldQ
import Derived.Test.YtneagccakoakpaaDoorFewO
namespace Go.Proofs.YtneagccakoakpaaDoor
open Go.RowKit

theorem has_is (x : ByteArray) (f : Fld) : hasB [x] f = isB x f := by
  unfold hasB isB
  rw [List.any_cons, List.any_nil, Bool.or_false]
  exact decide_eq_decide.2 ⟨fun h => h.symm, fun h => h.symm⟩
/-- All values of a name. -/
def allB (x : ByteArray) (fs : List Fld) : List ByteArray := (fs.filter (isB x)).map fun f => bs f.2
theorem allB_step {x : ByteArray} {fs : List Fld} {j : Nat} (hj : j < fs.length) : allB x (fs.take (j + 1)) = allB x (fs.take j) ++ if isB x fs[j] = true then [bs fs[j].2] else [] := by
  unfold allB
  rw [List.take_add_one, List.getElem?_eq_getElem hj, Option.toList_some, List.filter_append, List.map_append]
  congr 1
  cases h : isB x fs[j] <;> simp [h]
theorem allB_len (x : ByteArray) (fs : List Fld) : (allB x fs).length ≤ fs.length := by
  unfold allB
  rw [List.length_map]
  exact List.length_filter_le _ _
theorem allB_nil {x : ByteArray} {fs : List Fld} (h : ∀ f ∈ fs, hasB [x] f = false) : allB x fs = [] := by
  unfold allB
  rw [List.filter_eq_nil_iff.2 (fun f hf => by rw [← has_is, h f hf]; simp)]
  rfl
theorem allB_first {x : ByteArray} {fs : List Fld} {i : Nat} (hi : i < fs.length) (h : ∀ f ∈ fs.take i, hasB [x] f = false) (hy : hasB [x] fs[i] = true) : ∃ r, allB x fs = bs fs[i].2 :: r := by
  have e : fs = fs.take i ++ fs[i] :: fs.drop (i + 1) := by
    rw [List.getElem_cons_drop, List.take_append_drop]
  refine ⟨allB x (fs.drop (i + 1)), ?_⟩
  conv => lhs; rw [e]
  unfold allB
  rw [List.filter_append, List.filter_eq_nil_iff.2 (fun f hf => by rw [← has_is, h f hf]; simp), List.nil_append, List.filter_cons_of_pos (by rw [← has_is]; exact hy)]
  rfl
/-- The first value; is there one? -/
def getV (l : List ByteArray) : Value := match l with
  | [] => .tuple #[.string ⟨#[]⟩, .bool false]
  | v :: _ => .tuple #[.string v, .bool true]
set_option maxRecDepth 100000 in
set_option maxHeartbeats 2000000 in
theorem get42 (a : Option Addr) (c : Nat) (fs : List Fld) (n : ByteArray) (hfl : fs.length ≤ 1000000000) (hok : ∀ f ∈ fs, FldOk f) (w : World) (hf : IsFlds w a c fs) :
    Calls Tryd.prog 42 #[.slice a fs.length c, .string n] w fun e w' => e = .returned (getV (allB n fs)) ∧ Below w.heap.size w w' := by
  have HI := Lib.hid (index71 a c fs n hfl hok w hf)
  rcases findI_cases [n] fs with ⟨hi, hno⟩ | ⟨i, hil, hi, hyes, hno⟩
  · rw [hi] at HI
    rw [allB_nil hno]
    simp only [getV]
    clear hi hno hf hok
    go_enter Tryd.func42, Tryd.ntmps42
    go_wp2_with fail
    refine HI.out.mono ?_
    rintro e w1 ⟨rfl, hb⟩
    go_wp2_with fail
    go_ret2
    exact ⟨rfl, hb⟩
  · rw [hi] at HI
    obtain ⟨r, hr⟩ := allB_first hil hno hyes
    rw [hr]
    simp only [getV]
    obtain ⟨V, hV⟩ : ∃ V, V = bs fs[i].2 := ⟨_, rfl⟩
    rw [← hV]
    have HV := Lib.hid hV
    have HF := Lib.hid hf
    clear hi hno hyes hok hf hr hV
    have i1 : (i : Int) < fs.length := by omega
    have i0 : decide ((i : Int) < 0) = false := decide_eq_false (by omega)
    go_enter Tryd.func42, Tryd.ntmps42
    go_wp2_with fail
    refine HI.out.mono ?_
    rintro e w1 ⟨rfl, hb⟩
    obtain h0 | ⟨bk, o, rfl, hbk, hc, hcell⟩ := HF.out.below hb
    · subst h0; simp at hil
    have c2 := (hcell i fs[i] (by simp [hil])).2
    rw [← HV.out] at c2
    clear hcell HV
    go_wp2_with fail
    go_ret2
    exact ⟨rfl, hb⟩
set_option maxRecDepth 100000 in
set_option maxHeartbeats 1000000 in
theorem has43 (a : Option Addr) (c : Nat) (fs : List Fld) (n : ByteArray) (hfl : fs.length ≤ 1000000000) (hok : ∀ f ∈ fs, FldOk f) (w : World) (hf : IsFlds w a c fs) :
    Calls Tryd.prog 43 #[.slice a fs.length c, .string n] w fun e w' => e = .returned (.bool (decide (0 < (allB n fs).length))) ∧ Below w.heap.size w w' := by
  have HI := Lib.hid (index71 a c fs n hfl hok w hf)
  rcases findI_cases [n] fs with ⟨hi, hno⟩ | ⟨i, hil, hi, hyes, hno⟩
  · rw [hi] at HI
    rw [allB_nil hno]
    clear hi hno hf hok
    go_enter Tryd.func43, Tryd.ntmps43
    go_wp2_with fail
    refine HI.out.mono ?_
    rintro e w1 ⟨rfl, hb⟩
    go_wp2_with fail
    go_ret
    exact ⟨rfl, hb⟩
  · rw [hi] at HI
    obtain ⟨r, hr⟩ := allB_first hil hno hyes
    rw [hr, decide_eq_true (show 0 < (bs fs[i].2 :: r).length by simp)]
    clear hi hno hyes hok hf hr
    have i0 : (0 : Int) ≤ i := by omega
    go_enter Tryd.func43, Tryd.ntmps43
    go_wp2_with fail
    refine HI.out.mono ?_
    rintro e w1 ⟨rfl, hb⟩
    go_wp2_with fail
    go_ret
    exact ⟨rfl, hb⟩
set_option maxHeartbeats 1000000 in
theorem size51 (a : Option Addr) (c : Nat) (fs : List Fld) (hfl : fs.length ≤ 1000000000) (hok : ∀ f ∈ fs, FldOk f) (hsum : (textL fs).length ≤ 100000000000) (w : World) (hf : IsFlds w a c fs) :
    Calls Tryd.prog 51 #[.slice a fs.length c] w fun e w' => e = .returned (.int .i64 ((textL fs).length : Int)) ∧ Below w.heap.size w w' := by
  have HT := Lib.hid (text49 a c fs hfl hok hsum w hf)
  have hz := bs_size (textL fs)
  have HZ : Hid (((bs (textL fs)).size : Int) = ((textL fs).length : Int)) := by show _ = _; omega
  clear hf hok hz
  generalize bs (textL fs) = S at *
  go_enter Tryd.func51, Tryd.ntmps51
  go_wp2_with fail
  refine HT.out.mono ?_
  rintro e w1 ⟨rfl, hb⟩
  go_wp2_with fail
  go_ret
  exact ⟨by rw [← HZ.out]; rfl, hb⟩
set_option maxHeartbeats 4000000 in
set_option maxRecDepth 100000 in
theorem rall41 (a : Option Addr) (c : Nat) (fs : List Fld) (x : ByteArray) (hfl : fs.length ≤ 1000000) (hok : ∀ f ∈ fs, FldOk f) (hx : x.size ≤ 4000000000) (w : World) (hf : IsFlds w a c fs) :
    Calls Tryd.prog 41 #[.slice a fs.length c, .string x] w fun e w' => ∃ u, e = .returned u ∧ w'.ownsRow w.heap.size 9 1 u (allB x fs).length ((allB x fs).map Value.string) ∧ Below w.heap.size w w' := by
  obtain ⟨i0, hi, hz0, hz1, hz2⟩ := info_parts info9
  have HFF := Lib.hid hf
  have HOK := Lib.hid hok
  clear hf hok
  have L0 := Lib.hid (below_alloc w (.cells #[] 9))
  have O0 : Hid ((w.alloc (.cells #[] 9)).ownsRow w.heap.size 9 1 (.slice (some ⟨w.heap.size, 0, none⟩) 0 0) (allB x (fs.take 0)).length ((allB x (fs.take 0)).map Value.string)) := World.ownsRow_lit w #[] 0 (Nat.le_refl _) (by decide) (by simp)
  go_enter Tryd.func41, Tryd.ntmps41
  go_wp2_with fail
  go_loopw [5, 11] (fun v i wr => ∃ j : Nat, j ≤ fs.length ∧ i = .int .i64 (j : Int) ∧ Hid (wr.ownsRow w.heap.size 9 1 v (allB x (fs.take j)).length ((allB x (fs.take j)).map Value.string)) ∧ Hid (Below w.heap.size w wr)) (fun _ i _ => fs.length - (intOf i).toNat)
  case atStart => exact ⟨0, Nat.zero_le _, rfl, O0, L0⟩
  case round =>
    clear O0 L0
    obtain ⟨j, hj, rfl, ho, hb⟩ := hrel
    by_cases hlt : j < fs.length
    · have hbw := hb
      obtain h0 | ⟨bk, o, rfl, hbk, hc, hcell⟩ := HFF.out.below hbw.out
      · subst h0; simp at hlt
      obtain ⟨c1, c2⟩ := hcell j fs[j] (by simp [hlt])
      have hst := allB_step (x := x) hlt
      have hok := HOK.out fs[j] (List.getElem_mem hlt)
      have hdl := allB_len x (fs.take j)
      rw [List.length_take] at hdl
      obtain ⟨q, hq⟩ : ∃ q, q = isB x fs[j] := ⟨_, rfl⟩
      have HI := Lib.hid (fun W (_ : True) => is70 fs[j] x hok.1 hx q hq W)
      rw [← hq] at hst
      obtain ⟨f, hfe⟩ : ∃ f, f = fs[j] := ⟨_, rfl⟩
      rw [← hfe] at c1 c2 hst HI
      have HST := Lib.hid hst
      clear hcell hfe hq hst hok
      have j1 : (j : Int) < fs.length := by omega
      generalize bs f.1 = N at *
      generalize bs f.2 = V at *
      have hgr := hb.out.size
      have hsz : (wr.alloc (.cells #[.string N, .string V] 45)).heap.size = wr.heap.size + 1 := World.size_alloc _ _
      have B1 := Lib.hid (hb.out.alloc hgr (.cells #[.string N, .string V] 45))
      have O1 := Lib.hid (ho.out.alloc (.cells #[.string N, .string V] 45))
      have d1 : (wr.alloc (.cells #[.string N, .string V] 45)).cell? ⟨wr.heap.size, 0, none⟩ = some (.string N) := by simp
      have d2 : (wr.alloc (.cells #[.string N, .string V] 45)).cell? ⟨wr.heap.size, 1, none⟩ = some (.string V) := by simp
      clear ho hb
      go_wp2_with fail
      generalize World.alloc wr _ = wa at *
      refine (HI.out wa trivial).mono ?_
      rintro e wb ⟨rfl, hbb⟩
      have hlta : wr.heap.size < wa.heap.size := by omega
      have e1 : wb.cell? ⟨wr.heap.size, 0, none⟩ = some (.string N) := by rw [(bcell hbb).1 _ _ hlta]; exact d1
      have e2 : wb.cell? ⟨wr.heap.size, 1, none⟩ = some (.string V) := by rw [(bcell hbb).1 _ _ hlta]; exact d2
      have B2 := Lib.hid (B1.out.trans (hbb.mono B1.out.size))
      have O2 := Lib.hid (own_below O1.out hbb)
      clear hbb B1 O1 d1 d2 c1 c2
      cases q
      · have hst2 := HST.out
        rw [if_neg (by simp), List.append_nil] at hst2
        have HO3 := O2.out
        rw [← hst2] at HO3
        have HO4 := Lib.hid HO3
        clear hst2 HO3 O2
        go_wp2_with fail
        go_roundw
        case rel => exact ⟨j + 1, hlt, by go_num, HO4, B2⟩
        case measure => simp [intOf]; omega
      · have hst2 := HST.out
        rw [if_pos rfl] at hst2
        have HO2 : Hid ((wb.alloc (.cells #[.string V] 9)).ownsRow w.heap.size 9 1 _ (allB x (fs.take j)).length ((allB x (fs.take j)).map Value.string)) := O2.out.alloc _
        have hb2 : Hid (Below w.heap.size w (wb.alloc (.cells #[.string V] 9))) := B2.out.alloc B2.out.size _
        have hbz := B2.out.size
        have hcc : (allB x (fs.take (j + 1))).map Value.string = (allB x (fs.take j)).map Value.string ++ [.string V] := by
          rw [hst2, List.map_append]; rfl
        have hll : (allB x (fs.take (j + 1))).length = (allB x (fs.take j)).length + 1 := by rw [hst2]; simp
        have HCC := Lib.hid hcc
        have HLL := Lib.hid hll
        clear hst2 hcc hll O2 B2
        obtain ⟨k, hk⟩ : ∃ k, k = (allB x (fs.take j)).length := ⟨_, rfl⟩
        rw [← hk] at HO2 HLL hdl
        clear hk
        go_wp2_with (at_builtin; refine wpList_append_own _ rfl _ _ 36 rfl w.heap.size 9 i0 (.string ⟨#[]⟩) 1 16 Tryd.underlying36 hi hz0 hz1 hz2 rfl (by decide) _ _ _ rfl HO2.out ⟨wb.heap.size, 0, none⟩ 1 1 [.string V] rfl rfl ?c1 ?c2 ?c3 ?c4 ?c5 ?_)
        case c1 => intro i u hu; match i, hu with
          | 0, hu => obtain rfl : Value.string V = u := Option.some.inj hu; rw [Addr.add_mid]; simp
          | i + 1, hu => simp at hu
        case c2 => intro u hu; simp at hu; subst hu; rfl
        case c3 => unfold maxLen; omega
        case c4 => omega
        case c5 => simp; omega
        intro v' w2 hown' hgrow _
        have hb3 : Hid (Below w.heap.size w w2) := hb2.out.grown hgrow hb2.out.size (fun k hk => (HO2.out.lt k hk).1)
        rw [← HCC.out] at hown'
        have hown2 : w2.ownsRow w.heap.size 9 1 v' (allB x (fs.take (j + 1))).length ((allB x (fs.take (j + 1))).map Value.string) := by rw [HLL.out]; exact hown'
        have HO3 := Lib.hid hown2
        clear hown' hown2 hgrow hb2 HO2 HCC HLL
        go_wp2_with fail
        go_roundw
        case rel => exact ⟨j + 1, hlt, by go_num, HO3, hb3⟩
        case measure => simp [intOf]; omega
    · obtain rfl : j = fs.length := by omega
      have ho2 := ho.out
      rw [List.take_of_length_le (Nat.le_refl _)] at ho2
      have HO := Lib.hid ho2
      clear ho ho2
      go_wp2_with fail
      go_ret
      exact ⟨_, rfl, HO.out, hb.out⟩
set_option maxHeartbeats 4000000 in
set_option maxRecDepth 100000 in
theorem all44 (a : Option Addr) (c : Nat) (fs : List Fld) (x : ByteArray) (hfl : fs.length ≤ 1000000) (hok : ∀ f ∈ fs, FldOk f) (w : World) (hf : IsFlds w a c fs) :
    Calls Tryd.prog 44 #[.slice a fs.length c, .string x] w fun e w' => ∃ u, e = .returned u ∧ w'.ownsRow w.heap.size 9 1 u (allB x fs).length ((allB x fs).map Value.string) ∧ Below w.heap.size w w' := by
  obtain ⟨i0, hi, hz0, hz1, hz2⟩ := info_parts info9
  have L0 := Lib.hid (below_alloc w (.cells #[.string x] 9))
  have HFF := Lib.hid (hf.below L0.out)
  have HOK := Lib.hid hok
  have HNM := Lib.hid (isStrs_new1 w x 9)
  have hzz : (w.alloc (.cells #[.string x] 9)).heap.size = w.heap.size + 1 := World.size_alloc _ _
  clear hf hok
  go_enter Tryd.func44, Tryd.ntmps44
  go_wp2_with fail
  obtain ⟨w0, hw0⟩ : ∃ w0, w0 = w.alloc (.cells #[.string x] 9) := ⟨_, rfl⟩
  rw [← hw0] at L0 HFF HNM hzz ⊢
  have HZZ := Lib.hid hzz
  clear hw0 hzz
  go_loopw [6, 14] (fun v i wr => ∃ j : Nat, j ≤ fs.length ∧ i = .int .i64 (j : Int) ∧ Hid (wr.ownsRow w0.heap.size 9 1 v (allB x (fs.take j)).length ((allB x (fs.take j)).map Value.string)) ∧ Hid (Below w0.heap.size w0 wr)) (fun _ i _ => fs.length - (intOf i).toNat)
  case atStart => exact ⟨0, Nat.zero_le _, rfl, World.ownsRow_nil _ _ _ _, Below.refl _ _⟩
  case round =>
    obtain ⟨j, hj, rfl, ho, hb⟩ := hrel
    by_cases hlt : j < fs.length
    · have hbw := hb
      obtain h0 | ⟨bk, o, rfl, hbk, hc, hcell⟩ := HFF.out.below hbw.out
      · subst h0; simp at hlt
      obtain ⟨c1, c2⟩ := hcell j fs[j] (by simp [hlt])
      have hst := allB_step (x := x) hlt
      have hok := HOK.out fs[j] (List.getElem_mem hlt)
      have hdl := allB_len x (fs.take j)
      rw [List.length_take] at hdl
      obtain ⟨q, hq⟩ : ∃ q, q = isB x fs[j] := ⟨_, rfl⟩
      have HI := Lib.hid (fun W h => has72 (some ⟨w.heap.size, 0, none⟩) 1 [x] fs[j] (by simp) hok.1 q (by rw [hq]; exact (has_is x fs[j]).symm) W h)
      unfold fldV at HI
      rw [← hq] at hst
      obtain ⟨f, hfe⟩ : ∃ f, f = fs[j] := ⟨_, rfl⟩
      rw [← hfe] at c1 c2 hst HI
      have HST := Lib.hid hst
      clear hcell hfe hq hst hok
      have j1 : (j : Int) < fs.length := by omega
      generalize bs f.1 = N at *
      generalize bs f.2 = V at *
      have hgr := hb.out.size
      have hsz : (wr.alloc (.cells #[.string N, .string V] 42)).heap.size = wr.heap.size + 1 := World.size_alloc _ _
      have B1 := Lib.hid (hb.out.alloc hgr (.cells #[.string N, .string V] 42))
      have O1 := Lib.hid (ho.out.alloc (.cells #[.string N, .string V] 42))
      have d1 : (wr.alloc (.cells #[.string N, .string V] 42)).cell? ⟨wr.heap.size, 0, none⟩ = some (.string N) := by simp
      have d2 : (wr.alloc (.cells #[.string N, .string V] 42)).cell? ⟨wr.heap.size, 1, none⟩ = some (.string V) := by simp
      clear ho hb
      go_wp2_with fail
      generalize World.alloc wr _ = wa at *
      refine (HI.out wa (HNM.out.below B1.out)).mono ?_
      rintro e wb ⟨rfl, hbb⟩
      have hlta : wr.heap.size < wa.heap.size := by omega
      have e1 : wb.cell? ⟨wr.heap.size, 0, none⟩ = some (.string N) := by rw [(bcell hbb).1 _ _ hlta]; exact d1
      have e2 : wb.cell? ⟨wr.heap.size, 1, none⟩ = some (.string V) := by rw [(bcell hbb).1 _ _ hlta]; exact d2
      have B2 := Lib.hid (B1.out.trans (hbb.mono B1.out.size))
      have O2 := Lib.hid (own_below O1.out hbb)
      clear hbb B1 O1 d1 d2 c1 c2
      cases q
      · have hst2 := HST.out
        rw [if_neg (by simp), List.append_nil] at hst2
        have HO3 := O2.out
        rw [← hst2] at HO3
        have HO4 := Lib.hid HO3
        clear hst2 HO3 O2
        go_wp2_with fail
        go_roundw
        case rel => exact ⟨j + 1, hlt, by go_num, HO4, B2⟩
        case measure => simp [intOf]; omega
      · have hst2 := HST.out
        rw [if_pos rfl] at hst2
        have HO2 : Hid ((wb.alloc (.cells #[.string V] 9)).ownsRow w0.heap.size 9 1 _ (allB x (fs.take j)).length ((allB x (fs.take j)).map Value.string)) := O2.out.alloc _
        have hb2 : Hid (Below w0.heap.size w0 (wb.alloc (.cells #[.string V] 9))) := B2.out.alloc B2.out.size _
        have hbz := B2.out.size
        have hcc : (allB x (fs.take (j + 1))).map Value.string = (allB x (fs.take j)).map Value.string ++ [.string V] := by
          rw [hst2, List.map_append]; rfl
        have hll : (allB x (fs.take (j + 1))).length = (allB x (fs.take j)).length + 1 := by rw [hst2]; simp
        have HCC := Lib.hid hcc
        have HLL := Lib.hid hll
        clear hst2 hcc hll O2 B2
        obtain ⟨k, hk⟩ : ∃ k, k = (allB x (fs.take j)).length := ⟨_, rfl⟩
        rw [← hk] at HO2 HLL hdl
        clear hk
        go_wp2_with (at_builtin; refine wpList_append_own _ rfl _ _ 36 rfl w0.heap.size 9 i0 (.string ⟨#[]⟩) 1 16 Tryd.underlying36 hi hz0 hz1 hz2 rfl (by decide) _ _ _ rfl HO2.out ⟨wb.heap.size, 0, none⟩ 1 1 [.string V] rfl rfl ?c1 ?c2 ?c3 ?c4 ?c5 ?_)
        case c1 => intro i u hu; match i, hu with
          | 0, hu => obtain rfl : Value.string V = u := Option.some.inj hu; rw [Addr.add_mid]; simp
          | i + 1, hu => simp at hu
        case c2 => intro u hu; simp at hu; subst hu; rfl
        case c3 => unfold maxLen; omega
        case c4 => omega
        case c5 => simp; omega
        intro v' w2 hown' hgrow _
        have hb3 : Hid (Below w0.heap.size w0 w2) := hb2.out.grown hgrow hb2.out.size (fun k hk => (HO2.out.lt k hk).1)
        rw [← HCC.out] at hown'
        have hown2 : w2.ownsRow w0.heap.size 9 1 v' (allB x (fs.take (j + 1))).length ((allB x (fs.take (j + 1))).map Value.string) := by rw [HLL.out]; exact hown'
        have HO3 := Lib.hid hown2
        clear hown' hown2 hgrow hb2 HO2 HCC HLL
        go_wp2_with fail
        go_roundw
        case rel => exact ⟨j + 1, hlt, by go_num, HO3, hb3⟩
        case measure => simp [intOf]; omega
    · obtain rfl : j = fs.length := by omega
      have ho2 := ho.out
      rw [List.take_of_length_le (Nat.le_refl _)] at ho2
      have HO := Lib.hid ho2
      clear ho ho2
      go_wp2_with fail
      go_ret
      exact ⟨_, rfl, own_mono HO.out (by have := HZZ.out; omega), L0.out.trans (hb.out.mono L0.out.size)⟩
end Go.Proofs.YtneagccakoakpaaDoor
