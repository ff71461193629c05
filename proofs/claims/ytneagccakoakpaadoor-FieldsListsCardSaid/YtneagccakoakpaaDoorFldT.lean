/- The reference's Text and Set. The reference's Set. -/
import Derived.Test.YtneagccakoakpaaDoorFldR
namespace Go.Proofs.YtneagccakoakpaaDoor
open Go.RowKit

theorem bs_appL (a b : List UInt8) : bs a ++ bs b = bs (a ++ b) := by
  have : (bs a ++ bs b).data.toList = a ++ b := by simp [bs]
  exact str_eq _ _ this
set_option maxHeartbeats 4000000 in
set_option maxRecDepth 100000 in
theorem rtext50 (a : Option Addr) (c : Nat) (fs : List Fld) (hfl : fs.length ≤ 1000000) (hok : ∀ f ∈ fs, FldOk f) (hsum : (textL fs).length ≤ 100000000000) (w : World) (hf : IsFlds w a c fs) :
    Calls Tryd.prog 50 #[.slice a fs.length c] w fun e w' => e = .returned (.string (bs (textL fs))) ∧ Below w.heap.size w w' := by
  have HFF := Lib.hid hf
  have HOK := Lib.hid hok
  clear hf hok
  go_enter Tryd.func50, Tryd.ntmps50
  go_wp2_with fail
  go_loopw [3, 8] (fun v i wr => ∃ j : Nat, ∃ S : ByteArray, j ≤ fs.length ∧ i = .int .i64 (j : Int) ∧ v = .string S ∧ Hid (S = bs (textL (fs.take j))) ∧ Below w.heap.size w wr) (fun _ i _ => fs.length - (intOf i).toNat)
  case atStart => exact ⟨0, ⟨#[]⟩, Nat.zero_le _, rfl, rfl, rfl, Below.refl _ _⟩
  case round =>
    obtain ⟨j, S, hj, rfl, rfl, hS, hb⟩ := hrel
    by_cases hlt : j < fs.length
    · obtain h0 | ⟨bk, o, rfl, hbk, hc, hcell⟩ := HFF.out.below hb
      · subst h0; simp at hlt
      obtain ⟨c1, c2⟩ := hcell j fs[j] (by simp [hlt])
      have hst := textL_step hlt
      have h1 : (textL (fs.take j)).length ≤ (textL fs).length := textL_le
      have h2 : (textL (fs.take (j + 1))).length ≤ (textL fs).length := textL_le
      have hok := HOK.out fs[j] (List.getElem_mem hlt)
      obtain ⟨f, hfe⟩ : ∃ f, f = fs[j] := ⟨_, rfl⟩
      rw [← hfe] at c1 c2 hst hok
      clear hcell hfe
      have hzs := bs_size (textL (fs.take j))
      rw [← hS.out] at hzs
      have z1 := bs_size f.1
      have z2 := bs_size f.2
      have heq : Hid (S ++ (bs f.1 ++ ⟨#[58, 32]⟩ ++ bs f.2 ++ ⟨#[13, 10]⟩) = bs (textL (fs.take (j + 1)))) := by
        show _ = _
        rw [hS.out, show (⟨#[58, 32]⟩ : ByteArray) = bs [58, 32] from rfl, show (⟨#[13, 10]⟩ : ByteArray) = bs [13, 10] from rfl, bs_appL, bs_appL, bs_appL, bs_appL, hst]
        rfl
      have s1 : (S.size : Int) ≤ 100000000000 := by omega
      have s2 : ((bs f.1).size : Int) ≤ 4000000000 := by have := hok.1; omega
      have s3 : ((bs f.2).size : Int) ≤ 4000000000 := by have := hok.2; omega
      have j1 : (j : Int) < fs.length := by omega
      have L1 := hb.alloc hb.size (.cells #[.string (bs f.1), .string (bs f.2)] 45)
      clear hst h1 h2 hok hzs z1 z2
      generalize bs f.1 = N at *
      generalize bs f.2 = V at *
      go_wp2_with fail
      go_roundw
      case rel => exact ⟨j + 1, _, hlt, by go_num, rfl, heq, L1⟩
      case measure => simp [intOf]; omega
    · obtain rfl : j = fs.length := by omega
      have h1 := hS.out
      rw [List.take_of_length_le (Nat.le_refl _)] at h1
      have H1 := Lib.hid h1
      clear h1
      go_wp2_with fail
      go_ret
      exact ⟨by rw [← H1.out]; rfl, hb⟩
/-- What Set has collected. -/
def stepR (x : ByteArray) (g : Fld) (s : List Fld × Bool) (f : Fld) : List Fld × Bool := if isB x f = true then (if s.2 = true then s else (s.1 ++ [g], true)) else (s.1 ++ [f], s.2)
def outR (x : ByteArray) (g : Fld) (l : List Fld) : List Fld × Bool := l.foldl (stepR x g) ([], false)
theorem outR_step {x : ByteArray} {g : Fld} {fs : List Fld} {j : Nat} (hj : j < fs.length) : outR x g (fs.take (j + 1)) = stepR x g (outR x g (fs.take j)) fs[j] := by
  unfold outR
  rw [List.take_add_one, List.getElem?_eq_getElem hj, Option.toList_some, List.foldl_append]
  rfl
theorem foldR_no (x : ByteArray) (g : Fld) : ∀ (l : List Fld) (o : List Fld) (d : Bool), (∀ f ∈ l, hasB [x] f = false) → l.foldl (stepR x g) (o, d) = (o ++ l, d)
  | [], o, d, _ => by simp
  | f :: r, o, d, h => by
    have hf : isB x f = false := by rw [← has_is]; exact h f List.mem_cons_self
    rw [List.foldl_cons, stepR, if_neg (by rw [hf]; simp), foldR_no x g r _ _ (fun y hy => h y (List.mem_cons_of_mem _ hy))]
    simp
theorem foldR_yes (x : ByteArray) (g : Fld) : ∀ (l : List Fld) (o : List Fld), l.foldl (stepR x g) (o, true) = (o ++ dropL [x] l, true)
  | [], o => by simp [dropL]
  | f :: r, o => by
    rw [List.foldl_cons, stepR]
    by_cases hf : isB x f = true
    · rw [if_pos hf, if_pos rfl, foldR_yes x g r]
      unfold dropL
      rw [List.filter_cons_of_neg (by rw [has_is, hf]; simp)]
    · rw [if_neg hf, foldR_yes x g r]
      unfold dropL
      rw [List.filter_cons_of_pos (by rw [has_is]; simpa using hf)]
      simp
theorem outR_set (n v : List UInt8) (fs : List Fld) : (if (outR (bs n) (n, v) fs).2 = true then (outR (bs n) (n, v) fs).1 else (outR (bs n) (n, v) fs).1 ++ [(n, v)]) = setF n v fs := by
  unfold setF
  simp only
  rcases findI_cases [bs n] fs with ⟨hi, hno⟩ | ⟨i, hil, hi, hyes, hno⟩
  · rw [hi, if_neg (show ¬ ((0 : Int) ≤ -1) by decide)]
    unfold outR
    rw [foldR_no _ _ fs [] false hno]
    simp
  · rw [hi, if_pos (show (0 : Int) ≤ (i : Int) by omega), Int.toNat_natCast]
    have e : fs = fs.take i ++ fs[i] :: fs.drop (i + 1) := by rw [List.getElem_cons_drop, List.take_append_drop]
    have h1 : outR (bs n) (n, v) fs = (fs.take i ++ ((n, v) :: dropL [bs n] (fs.drop (i + 1))), true) := by
      unfold outR
      conv => lhs; rw [e]
      rw [List.foldl_append, foldR_no _ _ _ [] false hno, List.foldl_cons, stepR, if_pos (by rw [← has_is]; exact hyes), if_neg (by simp), foldR_yes]
      simp
    rw [h1]
    rfl
end Go.Proofs.YtneagccakoakpaaDoor
namespace Go.Proofs.YtneagccakoakpaaDoor
open Go.RowKit

theorem stepR_len (x : ByteArray) (g : Fld) (s : List Fld × Bool) (f : Fld) : (stepR x g s f).1.length ≤ s.1.length + 1 := by
  unfold stepR
  split
  · split <;> simp
  · simp
theorem outR_len (x : ByteArray) (g : Fld) (fs : List Fld) : ∀ j, j ≤ fs.length → (outR x g (fs.take j)).1.length ≤ j
  | 0, _ => by simp [outR]
  | j + 1, h => by
    rw [outR_step (by omega)]
    have h1 := stepR_len x g (outR x g (fs.take j)) fs[j]
    have h2 := outR_len x g fs j (by omega)
    omega
set_option maxHeartbeats 8000000 in
set_option maxRecDepth 100000 in
theorem rset47 (a : Option Addr) (c : Nat) (fs : List Fld) (n v : List UInt8) (hfl : fs.length ≤ 1000000) (hok : ∀ f ∈ fs, FldOk f) (hn : n.length ≤ 4000000000) (w : World) (hf : IsFlds w a c fs) :
    Calls Tryd.prog 47 #[.slice a fs.length c, .string (bs n), .string (bs v)] w fun e w' => ∃ u, e = .returned u ∧ w'.ownsRow w.heap.size 45 2 u (setF n v fs).length (cellsF (setF n v fs)) ∧ Below w.heap.size w w' := by
  obtain ⟨i0, hi, hz0, hz1, hz2⟩ := info_parts infoRef
  have HFF := Lib.hid hf
  have HOK := Lib.hid hok
  have HSET := Lib.hid (outR_set n v fs)
  have hnz : (bs n).size ≤ 4000000000 := by rw [bs_size]; exact hn
  have HOS := Lib.hid (fun j (h : j < fs.length) => outR_step (x := bs n) (g := (n, v)) h)
  have HOL := Lib.hid (outR_len (bs n) (n, v) fs)
  have HCG : Hid (cellsF [(n, v)] = [.string (bs n), .string (bs v)]) := rfl
  generalize hOR : outR (bs n) (n, v) = OR at *
  generalize hSF : setF n v fs = SF at *
  obtain ⟨XN, hXN⟩ : ∃ XN, XN = bs n := ⟨_, rfl⟩
  obtain ⟨XV, hXV⟩ : ∃ XV, XV = bs v := ⟨_, rfl⟩
  rw [← hXN] at HOS hnz
  rw [← hXN, ← hXV] at HCG ⊢
  have HO00 : Hid (OR (fs.take 0) = ([], false)) := by show _ = _; rw [← hOR]; rfl
  clear hf hok hOR hSF hXN hXV hn
  have L0 := Lib.hid (below_alloc w (.cells #[] 45))
  have O0 : Hid ((w.alloc (.cells #[] 45)).ownsRow w.heap.size 45 2 (.slice (some ⟨w.heap.size, 0, none⟩) 0 0) (OR (fs.take 0)).1.length (cellsF (OR (fs.take 0)).1)) := by
    rw [HO00.out]
    exact World.ownsRow_lit w #[] 0 (Nat.le_refl _) (by decide) (by simp)
  have HQ00 : Hid (false = (OR (fs.take 0)).2) := by rw [HO00.out]; rfl
  go_enter Tryd.func47, Tryd.ntmps47
  go_wp2_with fail
  go_loopw [7, 8, 14] (fun vv qv i wr => ∃ (j : Nat) (q : Bool), j ≤ fs.length ∧ i = .int .i64 (j : Int) ∧ qv = .bool q ∧ Hid (q = (OR (fs.take j)).2) ∧ Hid (wr.ownsRow w.heap.size 45 2 vv (OR (fs.take j)).1.length (cellsF (OR (fs.take j)).1)) ∧ Hid (Below w.heap.size w wr)) (fun _ _ i _ => fs.length - (intOf i).toNat)
  case atStart => exact ⟨0, false, Nat.zero_le _, rfl, rfl, HQ00, O0, L0⟩
  case round =>
    clear O0 L0 HQ00 HO00
    obtain ⟨j, q, hj, rfl, rfl, hq, ho, hb⟩ := hrel
    have hcl := HOL.out j hj
    by_cases hlt : j < fs.length
    · obtain h0 | ⟨bk, o, rfl, hbk, hc, hcell⟩ := HFF.out.below hb.out
      · subst h0; simp at hlt
      obtain ⟨c1, c2⟩ := hcell j fs[j] (by simp [hlt])
      have hst := HOS.out j hlt
      have hokj := HOK.out fs[j] (List.getElem_mem hlt)
      obtain ⟨p, hp⟩ : ∃ p, p = isB XN fs[j] := ⟨_, rfl⟩
      have HI := Lib.hid (fun W => is70 fs[j] XN hokj.1 hnz p hp W)
      unfold stepR at hst
      rw [← hp, ← hq.out] at hst
      have HNX := Lib.hid (Eq.refl (OR (fs.take (j + 1))))
      obtain ⟨cur, hcur⟩ : ∃ cur, cur = (OR (fs.take j)).1 := ⟨_, rfl⟩
      have HPR : Hid (OR (fs.take j) = (cur, q)) := Prod.ext hcur.symm hq.out.symm
      rw [← hcur] at ho hcl hst
      obtain ⟨f, hfe⟩ : ∃ f, f = fs[j] := ⟨_, rfl⟩
      rw [← hfe] at c1 c2 hst HI
      have HST := Lib.hid hst
      clear hcell hfe hp hst hokj hq hcur HNX
      have j1 : (j : Int) < fs.length := by omega
      have HCE : Hid (cellsF [f] = [.string (bs f.1), .string (bs f.2)]) := rfl
      generalize bs f.1 = N at *
      generalize bs f.2 = V at *
      have hgr := hb.out.size
      have hsz : (wr.alloc (.cells #[.string N, .string V] 45)).heap.size = wr.heap.size + 1 := World.size_alloc _ _
      have B1 := Lib.hid (hb.out.alloc hgr (.cells #[.string N, .string V] 45))
      have O1 := Lib.hid (ho.out.alloc (.cells #[.string N, .string V] 45))
      have d1 : (wr.alloc (.cells #[.string N, .string V] 45)).cell? ⟨wr.heap.size, 0, none⟩ = some (.string N) := by simp
      have d2 : (wr.alloc (.cells #[.string N, .string V] 45)).cell? ⟨wr.heap.size, 1, none⟩ = some (.string V) := by simp
      clear ho hb
      cases p
      · have hst2 := HST.out
        rw [if_neg (by simp)] at hst2
        have HS1 : Hid ((OR (fs.take (j + 1))).1 = cur ++ [f]) := by show _ = _; rw [hst2]
        have HS2 : Hid (q = (OR (fs.take (j + 1))).2) := by show _ = _; rw [hst2]
        clear hst2 HST
        go_wp2_with fail
        generalize World.alloc wr _ = wa at *
        refine (HI.out wa).mono ?_
        rintro e wb ⟨rfl, hbb⟩
        have hlta : wr.heap.size < wa.heap.size := by omega
        have e1 : wb.cell? ⟨wr.heap.size, 0, none⟩ = some (.string N) := by rw [(bcell hbb).1 _ _ hlta]; exact d1
        have e2 : wb.cell? ⟨wr.heap.size, 1, none⟩ = some (.string V) := by rw [(bcell hbb).1 _ _ hlta]; exact d2
        have B2 := Lib.hid (B1.out.trans (hbb.mono B1.out.size))
        have O2 := Lib.hid (own_below O1.out hbb)
        clear hbb B1 O1 d1 d2 c1 c2
        have HO2 : Hid ((wb.alloc (.cells #[.string N, .string V] 45)).ownsRow w.heap.size 45 2 _ cur.length (cellsF cur)) := O2.out.alloc _
        have hb2 : Hid (Below w.heap.size w (wb.alloc (.cells #[.string N, .string V] 45))) := B2.out.alloc B2.out.size _
        have HNW := Lib.hid (cells_new1 wb N V 45)
        have hbz := B2.out.size
        clear O2 B2
        obtain ⟨k, hk⟩ : ∃ k, k = cur.length := ⟨_, rfl⟩
        rw [← hk] at HO2 hcl
        have HKK := Lib.hid hk
        clear hk
        go_wp2_with (at_builtin; refine wpList_append_own _ rfl _ _ 49 rfl w.heap.size 45 i0 (.agg #[.string ⟨#[]⟩, .string ⟨#[]⟩]) 2 32 Tryd.underlying49 hi hz0 hz1 hz2 rfl (by decide) _ _ _ rfl HO2.out ⟨wb.heap.size, 0, none⟩ 1 1 [.string N, .string V] rfl rfl HNW.out (by intro u hu; simp at hu; rcases hu with rfl | rfl <;> rfl) (by unfold maxLen; omega) (by omega) (by simp; omega) ?_)
        intro v' w2 hown' hgrow _
        have hb3 : Hid (Below w.heap.size w w2) := hb2.out.grown hgrow hb2.out.size (fun k hk => (HO2.out.lt k hk).1)
        have hown2 : w2.ownsRow w.heap.size 45 2 v' (OR (fs.take (j + 1))).1.length (cellsF (OR (fs.take (j + 1))).1) := by
          rw [HS1.out, cellsF_append, HCE.out, List.length_append, List.length_singleton, ← HKK.out]
          exact hown'
        have HO3 := Lib.hid hown2
        clear hown' hown2 hgrow hb2 HO2 HNW
        go_wp2_with fail
        go_roundw
        case rel => exact ⟨j + 1, q, hlt, by go_num, rfl, HS2, HO3, hb3⟩
        case measure => simp [intOf]; omega
      · cases q
        · have hst2 := HST.out
          rw [if_pos rfl, if_neg (by simp)] at hst2
          have HS1 : Hid ((OR (fs.take (j + 1))).1 = cur ++ [(n, v)]) := by show _ = _; rw [hst2]
          have HS2 : Hid (true = (OR (fs.take (j + 1))).2) := by show _ = _; rw [hst2]
          clear hst2 HST
          go_wp2_with fail
          generalize World.alloc wr _ = wa at *
          refine (HI.out wa).mono ?_
          rintro e wb ⟨rfl, hbb⟩
          have B2 := Lib.hid (B1.out.trans (hbb.mono B1.out.size))
          have O2 := Lib.hid (own_below O1.out hbb)
          clear hbb B1 O1 d1 d2 c1 c2
          have HO2 : Hid ((wb.alloc (.cells #[.string XN, .string XV] 45)).ownsRow w.heap.size 45 2 _ cur.length (cellsF cur)) := O2.out.alloc _
          have hb2 : Hid (Below w.heap.size w (wb.alloc (.cells #[.string XN, .string XV] 45))) := B2.out.alloc B2.out.size _
          have HNW := Lib.hid (cells_new1 wb XN XV 45)
          have hbz := B2.out.size
          clear O2 B2
          obtain ⟨k, hk⟩ : ∃ k, k = cur.length := ⟨_, rfl⟩
          rw [← hk] at HO2 hcl
          have HKK := Lib.hid hk
          clear hk
          go_wp2_with (at_builtin; refine wpList_append_own _ rfl _ _ 49 rfl w.heap.size 45 i0 (.agg #[.string ⟨#[]⟩, .string ⟨#[]⟩]) 2 32 Tryd.underlying49 hi hz0 hz1 hz2 rfl (by decide) _ _ _ rfl HO2.out ⟨wb.heap.size, 0, none⟩ 1 1 [.string XN, .string XV] rfl rfl HNW.out (by intro u hu; simp at hu; rcases hu with rfl | rfl <;> rfl) (by unfold maxLen; omega) (by omega) (by simp; omega) ?_)
          intro v' w2 hown' hgrow _
          have hb3 : Hid (Below w.heap.size w w2) := hb2.out.grown hgrow hb2.out.size (fun k hk => (HO2.out.lt k hk).1)
          have hown2 : w2.ownsRow w.heap.size 45 2 v' (OR (fs.take (j + 1))).1.length (cellsF (OR (fs.take (j + 1))).1) := by
            rw [HS1.out, cellsF_append, HCG.out, List.length_append, List.length_singleton, ← HKK.out]
            exact hown'
          have HO3 := Lib.hid hown2
          clear hown' hown2 hgrow hb2 HO2 HNW
          go_wp2_with fail
          go_roundw
          case rel => exact ⟨j + 1, true, hlt, by go_num, rfl, HS2, HO3, hb3⟩
          case measure => simp [intOf]; omega
        · have hst2 := HST.out
          rw [if_pos rfl, if_pos rfl] at hst2
          have HS1 : Hid ((OR (fs.take (j + 1))).1 = cur) := by show _ = _; rw [hst2, HPR.out]
          have HS2 : Hid (true = (OR (fs.take (j + 1))).2) := by show _ = _; rw [hst2, HPR.out]
          clear hst2 HST
          go_wp2_with fail
          generalize World.alloc wr _ = wa at *
          refine (HI.out wa).mono ?_
          rintro e wb ⟨rfl, hbb⟩
          have B2 := Lib.hid (B1.out.trans (hbb.mono B1.out.size))
          have O2 := Lib.hid (own_below O1.out hbb)
          have ho2 := O2.out
          rw [← HS1.out] at ho2
          have HO3 := Lib.hid ho2
          clear hbb B1 O1 d1 d2 c1 c2 ho2 O2
          go_wp2_with fail
          go_roundw
          case rel => exact ⟨j + 1, true, hlt, by go_num, rfl, HS2, HO3, B2⟩
          case measure => simp [intOf]; omega
    · obtain rfl : j = fs.length := by omega
      have ho2 := ho.out
      have hq2 := hq.out
      have hset := HSET.out
      rw [List.take_of_length_le (Nat.le_refl _)] at ho2 hq2 hcl
      rw [← hq2] at hset
      generalize (OR fs).1 = cur at *
      have HO := Lib.hid ho2
      clear ho ho2 hq hq2
      have hbz := hb.out.size
      cases q
      · rw [if_neg (by simp)] at hset
        have HS := Lib.hid hset
        have HO2 : Hid ((wr.alloc (.cells #[.string XN, .string XV] 45)).ownsRow w.heap.size 45 2 _ cur.length (cellsF cur)) := HO.out.alloc _
        have hb2 : Hid (Below w.heap.size w (wr.alloc (.cells #[.string XN, .string XV] 45))) := hb.out.alloc hb.out.size _
        have HNW := Lib.hid (cells_new1 wr XN XV 45)
        clear HO hb hset
        obtain ⟨k, hk⟩ : ∃ k, k = cur.length := ⟨_, rfl⟩
        rw [← hk] at HO2 hcl
        have HKK := Lib.hid hk
        clear hk
        go_wp2_with (at_builtin; refine wpList_append_own _ rfl _ _ 49 rfl w.heap.size 45 i0 (.agg #[.string ⟨#[]⟩, .string ⟨#[]⟩]) 2 32 Tryd.underlying49 hi hz0 hz1 hz2 rfl (by decide) _ _ _ rfl HO2.out ⟨wr.heap.size, 0, none⟩ 1 1 [.string XN, .string XV] rfl rfl HNW.out (by intro u hu; simp at hu; rcases hu with rfl | rfl <;> rfl) (by unfold maxLen; omega) (by omega) (by simp; omega) ?_)
        intro v' w2 hown' hgrow _
        have hb3 : Hid (Below w.heap.size w w2) := hb2.out.grown hgrow hb2.out.size (fun k hk => (HO2.out.lt k hk).1)
        have hown2 : w2.ownsRow w.heap.size 45 2 v' SF.length (cellsF SF) := by
          rw [← HS.out, cellsF_append, HCG.out, List.length_append, List.length_singleton, ← HKK.out]
          exact hown'
        have HO3 := Lib.hid hown2
        clear hown' hown2 hgrow hb2 HO2 HNW
        go_wp2_with fail
        go_ret
        exact ⟨_, rfl, HO3.out, hb3.out⟩
      · rw [if_pos rfl] at hset
        subst hset
        go_wp2_with fail
        go_ret
        exact ⟨_, rfl, HO.out, hb.out⟩
end Go.Proofs.YtneagccakoakpaaDoor
