/- Packed: FldT, ListR, LawFldD, FldV, RwM, RwA. -/
import Derived.Maps.AppendAt
import Derived.Laws.AppendOwnNone
import Derived.Test.YtbbphklhnngjmaaGreatDoorS05
import Derived.Test.YtbbphklhnngjmaaGreatDoorS11
/- The reference's Text and Set. The reference's Set. -/
namespace Go.Proofs.YtbbphklhnngjmaaGreatDoor
open Go.RowKit

theorem bs_appL (a b : List UInt8) : bs a ++ bs b = bs (a ++ b) := by
  have : (bs a ++ bs b).data.toList = a ++ b := by simp [bs]
  exact str_eq _ _ this
set_option maxHeartbeats 4000000 in
set_option maxRecDepth 100000 in
theorem rtext50 (a : Option Addr) (c : Nat) (fs : List Fld) (hfl : fs.length ≤ 1000000) (hok : ∀ f ∈ fs, FldOk f) (hsum : (textL fs).length ≤ 100000000000) (w : World) (hf : IsFlds w a c fs) :
    Calls Tryz.prog 40 #[.slice a fs.length c] w fun e w' => e = .returned (.string (bs (textL fs))) ∧ Below w.heap.size w w' := by
  have HFF := Lib.hid hf
  have HOK := Lib.hid hok
  clear hf hok
  go_enter Tryz.func40, Tryz.ntmps40
  go_wp2_with fail
  go_loopw [3, 8] (fun v i wr => ∃ j : Nat, ∃ S : ByteArray, j ≤ fs.length ∧ i = .int .i64 (j : Int) ∧ v = .string S ∧ Hid (S = bs (textL (fs.take j))) ∧ Below w.heap.size w wr) (fun _ i _ => fs.length - (intOf i).toNat)
  case atStart => exact ⟨0, ⟨#[]⟩, Nat.zero_le _, rfl, rfl, rfl, Below.refl _ _⟩
  case round =>
    obtain ⟨j, S, hj, rfl, rfl, hS, hb⟩ := hrel
    by_cases hlt : j < fs.length
    · obtain h0 | ⟨bk, o, rfl, hbk, hc, hcell⟩ := HFF.out.below hb
      · subst h0; simp at hlt
      obtain ⟨c1, c2⟩ := hcell j fs[j] (by simp [hlt])
      have hst := textL_step hlt
      have h1 : (textL (fs.take j)).length ≤ (textL fs).length := textL_le
      have h2 : (textL (fs.take (j + 1))).length ≤ (textL fs).length := textL_le
      have hok := HOK.out fs[j] (List.getElem_mem hlt)
      obtain ⟨f, hfe⟩ : ∃ f, f = fs[j] := ⟨_, rfl⟩
      rw [← hfe] at c1 c2 hst hok
      clear hcell hfe
      have hzs := bs_size (textL (fs.take j))
      rw [← hS.out] at hzs
      have z1 := bs_size f.1
      have z2 := bs_size f.2
      have heq : Hid (S ++ (bs f.1 ++ ⟨#[58, 32]⟩ ++ bs f.2 ++ ⟨#[13, 10]⟩) = bs (textL (fs.take (j + 1)))) := by
        show _ = _
        rw [hS.out, show (⟨#[58, 32]⟩ : ByteArray) = bs [58, 32] from rfl, show (⟨#[13, 10]⟩ : ByteArray) = bs [13, 10] from rfl, bs_appL, bs_appL, bs_appL, bs_appL, hst]
        rfl
      have s1 : (S.size : Int) ≤ 100000000000 := by omega
      have s2 : ((bs f.1).size : Int) ≤ 4000000000 := by have := hok.1; omega
      have s3 : ((bs f.2).size : Int) ≤ 4000000000 := by have := hok.2; omega
      have j1 : (j : Int) < fs.length := by omega
      have L1 := hb.alloc hb.size (.cells #[.string (bs f.1), .string (bs f.2)] 53)
      clear hst h1 h2 hok hzs z1 z2
      generalize bs f.1 = N at *
      generalize bs f.2 = V at *
      go_wp2_with fail
      go_roundw
      case rel => exact ⟨j + 1, _, hlt, by go_num, rfl, heq, L1⟩
      case measure => simp [intOf]; omega
    · obtain rfl : j = fs.length := by omega
      have h1 := hS.out
      rw [List.take_of_length_le (Nat.le_refl _)] at h1
      have H1 := Lib.hid h1
      clear h1
      go_wp2_with fail
      go_ret
      exact ⟨by rw [← H1.out]; rfl, hb⟩
/-- What Set has collected. -/
def stepR (x : ByteArray) (g : Fld) (s : List Fld × Bool) (f : Fld) : List Fld × Bool := if isB x f = true then (if s.2 = true then s else (s.1 ++ [g], true)) else (s.1 ++ [f], s.2)
def outR (x : ByteArray) (g : Fld) (l : List Fld) : List Fld × Bool := l.foldl (stepR x g) ([], false)
theorem outR_step {x : ByteArray} {g : Fld} {fs : List Fld} {j : Nat} (hj : j < fs.length) : outR x g (fs.take (j + 1)) = stepR x g (outR x g (fs.take j)) fs[j] := by
  unfold outR
  rw [List.take_add_one, List.getElem?_eq_getElem hj, Option.toList_some, List.foldl_append]
  rfl
theorem foldR_no (x : ByteArray) (g : Fld) : ∀ (l : List Fld) (o : List Fld) (d : Bool), (∀ f ∈ l, hasB [x] f = false) → l.foldl (stepR x g) (o, d) = (o ++ l, d)
  | [], o, d, _ => by simp
  | f :: r, o, d, h => by
    have hf : isB x f = false := by rw [← has_is]; exact h f List.mem_cons_self
    rw [List.foldl_cons, stepR, if_neg (by rw [hf]; simp), foldR_no x g r _ _ (fun y hy => h y (List.mem_cons_of_mem _ hy))]
    simp
theorem foldR_yes (x : ByteArray) (g : Fld) : ∀ (l : List Fld) (o : List Fld), l.foldl (stepR x g) (o, true) = (o ++ dropL [x] l, true)
  | [], o => by simp [dropL]
  | f :: r, o => by
    rw [List.foldl_cons, stepR]
    by_cases hf : isB x f = true
    · rw [if_pos hf, if_pos rfl, foldR_yes x g r]
      unfold dropL
      rw [List.filter_cons_of_neg (by rw [has_is, hf]; simp)]
    · rw [if_neg hf, foldR_yes x g r]
      unfold dropL
      rw [List.filter_cons_of_pos (by rw [has_is]; simpa using hf)]
      simp
theorem outR_set (n v : List UInt8) (fs : List Fld) : (if (outR (bs n) (n, v) fs).2 = true then (outR (bs n) (n, v) fs).1 else (outR (bs n) (n, v) fs).1 ++ [(n, v)]) = setF n v fs := by
  unfold setF
  simp only
  rcases findI_cases [bs n] fs with ⟨hi, hno⟩ | ⟨i, hil, hi, hyes, hno⟩
  · rw [hi, if_neg (show ¬ ((0 : Int) ≤ -1) by decide)]
    unfold outR
    rw [foldR_no _ _ fs [] false hno]
    simp
  · rw [hi, if_pos (show (0 : Int) ≤ (i : Int) by omega), Int.toNat_natCast]
    have e : fs = fs.take i ++ fs[i] :: fs.drop (i + 1) := by rw [List.getElem_cons_drop, List.take_append_drop]
    have h1 : outR (bs n) (n, v) fs = (fs.take i ++ ((n, v) :: dropL [bs n] (fs.drop (i + 1))), true) := by
      unfold outR
      conv => lhs; rw [e]
      rw [List.foldl_append, foldR_no _ _ _ [] false hno, List.foldl_cons, stepR, if_pos (by rw [← has_is]; exact hyes), if_neg (by simp), foldR_yes]
      simp
    rw [h1]
    rfl
end Go.Proofs.YtbbphklhnngjmaaGreatDoor
namespace Go.Proofs.YtbbphklhnngjmaaGreatDoor
open Go.RowKit

theorem stepR_len (x : ByteArray) (g : Fld) (s : List Fld × Bool) (f : Fld) : (stepR x g s f).1.length ≤ s.1.length + 1 := by
  unfold stepR
  split
  · split <;> simp
  · simp
theorem outR_len (x : ByteArray) (g : Fld) (fs : List Fld) : ∀ j, j ≤ fs.length → (outR x g (fs.take j)).1.length ≤ j
  | 0, _ => by simp [outR]
  | j + 1, h => by
    rw [outR_step (by omega)]
    have h1 := stepR_len x g (outR x g (fs.take j)) fs[j]
    have h2 := outR_len x g fs j (by omega)
    omega
set_option maxHeartbeats 8000000 in
set_option maxRecDepth 100000 in
theorem rset47 (a : Option Addr) (c : Nat) (fs : List Fld) (n v : List UInt8) (hfl : fs.length ≤ 1000000) (hok : ∀ f ∈ fs, FldOk f) (hn : n.length ≤ 4000000000) (w : World) (hf : IsFlds w a c fs) :
    Calls Tryz.prog 50 #[.slice a fs.length c, .string (bs n), .string (bs v)] w fun e w' => ∃ u, e = .returned u ∧ w'.ownsRow w.heap.size 53 2 u (setF n v fs).length (cellsF (setF n v fs)) ∧ Below w.heap.size w w' := by
  obtain ⟨i0, hi, hz0, hz1, hz2⟩ := info_parts infoRef
  have HFF := Lib.hid hf
  have HOK := Lib.hid hok
  have HSET := Lib.hid (outR_set n v fs)
  have hnz : (bs n).size ≤ 4000000000 := by rw [bs_size]; exact hn
  have HOS := Lib.hid (fun j (h : j < fs.length) => outR_step (x := bs n) (g := (n, v)) h)
  have HOL := Lib.hid (outR_len (bs n) (n, v) fs)
  have HCG : Hid (cellsF [(n, v)] = [.string (bs n), .string (bs v)]) := rfl
  generalize hOR : outR (bs n) (n, v) = OR at *
  generalize hSF : setF n v fs = SF at *
  obtain ⟨XN, hXN⟩ : ∃ XN, XN = bs n := ⟨_, rfl⟩
  obtain ⟨XV, hXV⟩ : ∃ XV, XV = bs v := ⟨_, rfl⟩
  rw [← hXN] at HOS hnz
  rw [← hXN, ← hXV] at HCG ⊢
  have HO00 : Hid (OR (fs.take 0) = ([], false)) := by show _ = _; rw [← hOR]; rfl
  clear hf hok hOR hSF hXN hXV hn
  have L0 := Lib.hid (below_alloc w (.cells #[] 53))
  have O0 : Hid ((w.alloc (.cells #[] 53)).ownsRow w.heap.size 53 2 (.slice (some ⟨w.heap.size, 0, none⟩) 0 0) (OR (fs.take 0)).1.length (cellsF (OR (fs.take 0)).1)) := by
    rw [HO00.out]
    exact World.ownsRow_lit w #[] 0 (Nat.le_refl _) (by decide) (by simp)
  have HQ00 : Hid (false = (OR (fs.take 0)).2) := by rw [HO00.out]; rfl
  go_enter Tryz.func50, Tryz.ntmps50
  go_wp2_with fail
  go_loopw [7, 8, 14] (fun vv qv i wr => ∃ (j : Nat) (q : Bool), j ≤ fs.length ∧ i = .int .i64 (j : Int) ∧ qv = .bool q ∧ Hid (q = (OR (fs.take j)).2) ∧ Hid (wr.ownsRow w.heap.size 53 2 vv (OR (fs.take j)).1.length (cellsF (OR (fs.take j)).1)) ∧ Hid (Below w.heap.size w wr)) (fun _ _ i _ => fs.length - (intOf i).toNat)
  case atStart => exact ⟨0, false, Nat.zero_le _, rfl, rfl, HQ00, O0, L0⟩
  case round =>
    clear O0 L0 HQ00 HO00
    obtain ⟨j, q, hj, rfl, rfl, hq, ho, hb⟩ := hrel
    have hcl := HOL.out j hj
    by_cases hlt : j < fs.length
    · obtain h0 | ⟨bk, o, rfl, hbk, hc, hcell⟩ := HFF.out.below hb.out
      · subst h0; simp at hlt
      obtain ⟨c1, c2⟩ := hcell j fs[j] (by simp [hlt])
      have hst := HOS.out j hlt
      have hokj := HOK.out fs[j] (List.getElem_mem hlt)
      obtain ⟨p, hp⟩ : ∃ p, p = isB XN fs[j] := ⟨_, rfl⟩
      have HI := Lib.hid (fun W => is70 fs[j] XN hokj.1 hnz p hp W)
      unfold stepR at hst
      rw [← hp, ← hq.out] at hst
      have HNX := Lib.hid (Eq.refl (OR (fs.take (j + 1))))
      obtain ⟨cur, hcur⟩ : ∃ cur, cur = (OR (fs.take j)).1 := ⟨_, rfl⟩
      have HPR : Hid (OR (fs.take j) = (cur, q)) := Prod.ext hcur.symm hq.out.symm
      rw [← hcur] at ho hcl hst
      obtain ⟨f, hfe⟩ : ∃ f, f = fs[j] := ⟨_, rfl⟩
      rw [← hfe] at c1 c2 hst HI
      have HST := Lib.hid hst
      clear hcell hfe hp hst hokj hq hcur HNX
      have j1 : (j : Int) < fs.length := by omega
      have HCE : Hid (cellsF [f] = [.string (bs f.1), .string (bs f.2)]) := rfl
      generalize bs f.1 = N at *
      generalize bs f.2 = V at *
      have hgr := hb.out.size
      have hsz : (wr.alloc (.cells #[.string N, .string V] 53)).heap.size = wr.heap.size + 1 := World.size_alloc _ _
      have B1 := Lib.hid (hb.out.alloc hgr (.cells #[.string N, .string V] 53))
      have O1 := Lib.hid (ho.out.alloc (.cells #[.string N, .string V] 53))
      have d1 : (wr.alloc (.cells #[.string N, .string V] 53)).cell? ⟨wr.heap.size, 0, none⟩ = some (.string N) := by simp
      have d2 : (wr.alloc (.cells #[.string N, .string V] 53)).cell? ⟨wr.heap.size, 1, none⟩ = some (.string V) := by simp
      clear ho hb
      cases p
      · have hst2 := HST.out
        rw [if_neg (by simp)] at hst2
        have HS1 : Hid ((OR (fs.take (j + 1))).1 = cur ++ [f]) := by show _ = _; rw [hst2]
        have HS2 : Hid (q = (OR (fs.take (j + 1))).2) := by show _ = _; rw [hst2]
        clear hst2 HST
        go_wp2_with fail
        generalize World.alloc wr _ = wa at *
        refine (HI.out wa).mono ?_
        rintro e wb ⟨rfl, hbb⟩
        have hlta : wr.heap.size < wa.heap.size := by omega
        have e1 : wb.cell? ⟨wr.heap.size, 0, none⟩ = some (.string N) := by rw [(bcell hbb).1 _ _ hlta]; exact d1
        have e2 : wb.cell? ⟨wr.heap.size, 1, none⟩ = some (.string V) := by rw [(bcell hbb).1 _ _ hlta]; exact d2
        have B2 := Lib.hid (B1.out.trans (hbb.mono B1.out.size))
        have O2 := Lib.hid (own_below O1.out hbb)
        clear hbb B1 O1 d1 d2 c1 c2
        have HO2 : Hid ((wb.alloc (.cells #[.string N, .string V] 53)).ownsRow w.heap.size 53 2 _ cur.length (cellsF cur)) := O2.out.alloc _
        have hb2 : Hid (Below w.heap.size w (wb.alloc (.cells #[.string N, .string V] 53))) := B2.out.alloc B2.out.size _
        have HNW := Lib.hid (cells_new1 wb N V 53)
        have hbz := B2.out.size
        clear O2 B2
        obtain ⟨k, hk⟩ : ∃ k, k = cur.length := ⟨_, rfl⟩
        rw [← hk] at HO2 hcl
        have HKK := Lib.hid hk
        clear hk
        go_wp2_with (at_builtin; refine wpList_append_own _ rfl _ _ 22 rfl w.heap.size 53 i0 (.agg #[.string ⟨#[]⟩, .string ⟨#[]⟩]) 2 32 Tryz.underlying22 hi hz0 hz1 hz2 rfl (by decide) _ _ _ rfl HO2.out ⟨wb.heap.size, 0, none⟩ 1 1 [.string N, .string V] rfl rfl HNW.out (by intro u hu; simp at hu; rcases hu with rfl | rfl <;> rfl) (by unfold maxLen; omega) (by omega) (by simp; omega) ?_)
        intro v' w2 hown' hgrow _
        have hb3 : Hid (Below w.heap.size w w2) := hb2.out.grown hgrow hb2.out.size (fun k hk => (HO2.out.lt k hk).1)
        have hown2 : w2.ownsRow w.heap.size 53 2 v' (OR (fs.take (j + 1))).1.length (cellsF (OR (fs.take (j + 1))).1) := by
          rw [HS1.out, cellsF_append, HCE.out, List.length_append, List.length_singleton, ← HKK.out]
          exact hown'
        have HO3 := Lib.hid hown2
        clear hown' hown2 hgrow hb2 HO2 HNW
        go_wp2_with fail
        go_roundw
        case rel => exact ⟨j + 1, q, hlt, by go_num, rfl, HS2, HO3, hb3⟩
        case measure => simp [intOf]; omega
      · cases q
        · have hst2 := HST.out
          rw [if_pos rfl, if_neg (by simp)] at hst2
          have HS1 : Hid ((OR (fs.take (j + 1))).1 = cur ++ [(n, v)]) := by show _ = _; rw [hst2]
          have HS2 : Hid (true = (OR (fs.take (j + 1))).2) := by show _ = _; rw [hst2]
          clear hst2 HST
          go_wp2_with fail
          generalize World.alloc wr _ = wa at *
          refine (HI.out wa).mono ?_
          rintro e wb ⟨rfl, hbb⟩
          have B2 := Lib.hid (B1.out.trans (hbb.mono B1.out.size))
          have O2 := Lib.hid (own_below O1.out hbb)
          clear hbb B1 O1 d1 d2 c1 c2
          have HO2 : Hid ((wb.alloc (.cells #[.string XN, .string XV] 53)).ownsRow w.heap.size 53 2 _ cur.length (cellsF cur)) := O2.out.alloc _
          have hb2 : Hid (Below w.heap.size w (wb.alloc (.cells #[.string XN, .string XV] 53))) := B2.out.alloc B2.out.size _
          have HNW := Lib.hid (cells_new1 wb XN XV 53)
          have hbz := B2.out.size
          clear O2 B2
          obtain ⟨k, hk⟩ : ∃ k, k = cur.length := ⟨_, rfl⟩
          rw [← hk] at HO2 hcl
          have HKK := Lib.hid hk
          clear hk
          go_wp2_with (at_builtin; refine wpList_append_own _ rfl _ _ 22 rfl w.heap.size 53 i0 (.agg #[.string ⟨#[]⟩, .string ⟨#[]⟩]) 2 32 Tryz.underlying22 hi hz0 hz1 hz2 rfl (by decide) _ _ _ rfl HO2.out ⟨wb.heap.size, 0, none⟩ 1 1 [.string XN, .string XV] rfl rfl HNW.out (by intro u hu; simp at hu; rcases hu with rfl | rfl <;> rfl) (by unfold maxLen; omega) (by omega) (by simp; omega) ?_)
          intro v' w2 hown' hgrow _
          have hb3 : Hid (Below w.heap.size w w2) := hb2.out.grown hgrow hb2.out.size (fun k hk => (HO2.out.lt k hk).1)
          have hown2 : w2.ownsRow w.heap.size 53 2 v' (OR (fs.take (j + 1))).1.length (cellsF (OR (fs.take (j + 1))).1) := by
            rw [HS1.out, cellsF_append, HCG.out, List.length_append, List.length_singleton, ← HKK.out]
            exact hown'
          have HO3 := Lib.hid hown2
          clear hown' hown2 hgrow hb2 HO2 HNW
          go_wp2_with fail
          go_roundw
          case rel => exact ⟨j + 1, true, hlt, by go_num, rfl, HS2, HO3, hb3⟩
          case measure => simp [intOf]; omega
        · have hst2 := HST.out
          rw [if_pos rfl, if_pos rfl] at hst2
          have HS1 : Hid ((OR (fs.take (j + 1))).1 = cur) := by show _ = _; rw [hst2, HPR.out]
          have HS2 : Hid (true = (OR (fs.take (j + 1))).2) := by show _ = _; rw [hst2, HPR.out]
          clear hst2 HST
          go_wp2_with fail
          generalize World.alloc wr _ = wa at *
          refine (HI.out wa).mono ?_
          rintro e wb ⟨rfl, hbb⟩
          have B2 := Lib.hid (B1.out.trans (hbb.mono B1.out.size))
          have O2 := Lib.hid (own_below O1.out hbb)
          have ho2 := O2.out
          rw [← HS1.out] at ho2
          have HO3 := Lib.hid ho2
          clear hbb B1 O1 d1 d2 c1 c2 ho2 O2
          go_wp2_with fail
          go_roundw
          case rel => exact ⟨j + 1, true, hlt, by go_num, rfl, HS2, HO3, B2⟩
          case measure => simp [intOf]; omega
    · obtain rfl : j = fs.length := by omega
      have ho2 := ho.out
      have hq2 := hq.out
      have hset := HSET.out
      rw [List.take_of_length_le (Nat.le_refl _)] at ho2 hq2 hcl
      rw [← hq2] at hset
      generalize (OR fs).1 = cur at *
      have HO := Lib.hid ho2
      clear ho ho2 hq hq2
      have hbz := hb.out.size
      cases q
      · rw [if_neg (by simp)] at hset
        have HS := Lib.hid hset
        have HO2 : Hid ((wr.alloc (.cells #[.string XN, .string XV] 53)).ownsRow w.heap.size 53 2 _ cur.length (cellsF cur)) := HO.out.alloc _
        have hb2 : Hid (Below w.heap.size w (wr.alloc (.cells #[.string XN, .string XV] 53))) := hb.out.alloc hb.out.size _
        have HNW := Lib.hid (cells_new1 wr XN XV 53)
        clear HO hb hset
        obtain ⟨k, hk⟩ : ∃ k, k = cur.length := ⟨_, rfl⟩
        rw [← hk] at HO2 hcl
        have HKK := Lib.hid hk
        clear hk
        go_wp2_with (at_builtin; refine wpList_append_own _ rfl _ _ 22 rfl w.heap.size 53 i0 (.agg #[.string ⟨#[]⟩, .string ⟨#[]⟩]) 2 32 Tryz.underlying22 hi hz0 hz1 hz2 rfl (by decide) _ _ _ rfl HO2.out ⟨wr.heap.size, 0, none⟩ 1 1 [.string XN, .string XV] rfl rfl HNW.out (by intro u hu; simp at hu; rcases hu with rfl | rfl <;> rfl) (by unfold maxLen; omega) (by omega) (by simp; omega) ?_)
        intro v' w2 hown' hgrow _
        have hb3 : Hid (Below w.heap.size w w2) := hb2.out.grown hgrow hb2.out.size (fun k hk => (HO2.out.lt k hk).1)
        have hown2 : w2.ownsRow w.heap.size 53 2 v' SF.length (cellsF SF) := by
          rw [← HS.out, cellsF_append, HCG.out, List.length_append, List.length_singleton, ← HKK.out]
          exact hown'
        have HO3 := Lib.hid hown2
        clear hown' hown2 hgrow hb2 HO2 HNW
        go_wp2_with fail
        go_ret
        exact ⟨_, rfl, HO3.out, hb3.out⟩
      · rw [if_pos rfl] at hset
        subst hset
        go_wp2_with fail
        go_ret
        exact ⟨_, rfl, HO.out, hb.out⟩
end Go.Proofs.YtbbphklhnngjmaaGreatDoor

/- The reference's List. -/
namespace Go.Proofs.YtbbphklhnngjmaaGreatDoor
open Go.RowKit

theorem no_comma_step (s : ByteArray) (f i : Nat) (hf : f ≤ i) (hi : i < s.size) (h : (44 : UInt8) ∉ (s.data.toList.drop f).take (i - f)) (hc : s[i] ≠ 44) : (44 : UInt8) ∉ (s.data.toList.drop f).take (i + 1 - f) := by
  have e : i + 1 - f = (i - f) + 1 := by omega
  have hg : (s.data.toList.drop f)[i - f]? = some s[i] := by rw [List.getElem?_drop, show f + (i - f) = i by omega]; exact toList_get s i hi
  rw [e, List.take_add_one, hg, Option.toList_some, List.mem_append, not_or]
  exact ⟨h, by rw [List.mem_singleton]; exact fun e => hc e.symm⟩
theorem comma_cut (s : ByteArray) (f i : Nat) (hf : f ≤ i) (hi : i < s.size) (h : (44 : UInt8) ∉ (s.data.toList.drop f).take (i - f)) (hc : s[i] = 44) :
    parts 44 (s.data.toList.drop f) = (s.extract f i).data.toList :: parts 44 (s.data.toList.drop (i + 1)) := by
  have hg : (s.data.toList.drop f)[i - f]? = some s[i] := by rw [List.getElem?_drop, show f + (i - f) = i by omega]; exact toList_get s i hi
  have hlt := (List.getElem?_eq_some_iff.1 hg).1
  have e : s.data.toList.drop f = (s.data.toList.drop f).take (i - f) ++ 44 :: s.data.toList.drop (i + 1) := by
    have e2 : s.data.toList.drop (i + 1) = (s.data.toList.drop f).drop (i - f + 1) := by rw [List.drop_drop]; congr 1; omega
    rw [e2]
    have := List.drop_eq_getElem_cons hlt
    have e3 : (s.data.toList.drop f)[i - f] = 44 := by
      have := (List.getElem?_eq_some_iff.1 hg).2
      rw [this, hc]
    rw [← e3, ← this, List.take_append_drop]
  have h1 := congrArg (parts 44) e
  rw [parts_cut 44 _ _ h] at h1
  rw [h1, extractL]
theorem comma_end (s : ByteArray) (f : Nat) (hf : f ≤ s.size) (h : (44 : UInt8) ∉ (s.data.toList.drop f).take (s.size - f)) :
    parts 44 (s.data.toList.drop f) = [(s.extract f s.size).data.toList] := by
  have hz := Lib.size_eq s
  rw [List.take_of_length_le (by rw [List.length_drop]; omega)] at h
  rw [parts_one 44 _ h, extractL, List.take_of_length_le (by rw [List.length_drop]; omega)]
theorem one_str (T : ByteArray) : ∀ u ∈ [Value.string T], u.oneCell' = true := by intro u hu; simp at hu; subst hu; rfl
/-- Where the reference's inner loop stands. -/
def InPart (s : ByteArray) (f i : Nat) (pre : List (List UInt8)) : Prop :=
  (i ≤ s.size ∧ f ≤ i ∧ pre ++ parts 44 (s.data.toList.drop f) = parts 44 s.data.toList ∧ (44 : UInt8) ∉ (s.data.toList.drop f).take (i - f)) ∨ (i = s.size + 1 ∧ pre = parts 44 s.data.toList)
theorem inPart_zero (s : ByteArray) : InPart s 0 0 [] := .inl ⟨Nat.zero_le _, Nat.le_refl _, rfl, by simp⟩
theorem inPart_go {s : ByteArray} {f i : Nat} {pre : List (List UInt8)} (h : InPart s f i pre) (hi : i < s.size) (hc : s[i] ≠ 44) : InPart s f (i + 1) pre := by
  rcases h with ⟨h1, h2, h3, h4⟩ | ⟨h1, _⟩
  · exact .inl ⟨hi, by omega, h3, no_comma_step s f i h2 hi h4 hc⟩
  · omega
theorem inPart_cut {s : ByteArray} {f i : Nat} {pre : List (List UInt8)} (h : InPart s f i pre) (hi : i < s.size) (hc : s[i] = 44) : InPart s (i + 1) (i + 1) (pre ++ [(s.extract f i).data.toList]) := by
  rcases h with ⟨h1, h2, h3, h4⟩ | ⟨h1, _⟩
  · refine .inl ⟨hi, Nat.le_refl _, ?_, by simp⟩
    rw [List.append_assoc, List.singleton_append, ← comma_cut s f i h2 hi h4 hc, h3]
  · omega
theorem inPart_end {s : ByteArray} {f : Nat} {pre : List (List UInt8)} (h : InPart s f s.size pre) : InPart s (s.size + 1) (s.size + 1) (pre ++ [(s.extract f s.size).data.toList]) := by
  rcases h with ⟨h1, h2, h3, h4⟩ | ⟨h1, _⟩
  · refine .inr ⟨rfl, ?_⟩
    rw [← comma_end s f h2 h4, h3]
  · omega
theorem inPart_le {s : ByteArray} {f i : Nat} {pre : List (List UInt8)} (h : InPart s f i pre) (hi : i ≤ s.size) : f ≤ i := by
  rcases h with ⟨_, h2, _⟩ | ⟨h1, _⟩
  · exact h2
  · omega
theorem inPart_len {s : ByteArray} {f i : Nat} {pre : List (List UInt8)} (h : InPart s f i pre) : pre.length ≤ s.size + 1 := by
  have hl := parts_length 44 s.data.toList
  rw [← Lib.size_eq] at hl
  rcases h with ⟨_, _, h3, _⟩ | ⟨_, h2⟩
  · have := congrArg List.length h3
    rw [List.length_append] at this
    omega
  · rw [h2]; exact hl

set_option maxRecDepth 1000000 in
set_option maxHeartbeats 4000000 in
theorem list34 (a : Option Addr) (c : Nat) (xs : List ByteArray) (hsum : sumS xs ≤ 1000000000) (w : World) (hx : IsStrs w a c xs) :
    Calls Tryz.prog 110 #[.slice a xs.length c] w fun e w' => ∃ v, e = .returned v ∧ w'.ownsRow w.heap.size 9 1 v (listP xs).length (valsOf (listP xs)) ∧ Below w.heap.size w w' := by
  obtain ⟨i0, hi, hz0, hz1, hz2⟩ := info_parts infoStr
  have HX := Lib.hid hx
  clear hx
  have hlen := sum_len xs
  have L0 := below_alloc w (.cells #[] 9)
  have O0 : Hid ((w.alloc (.cells #[] 9)).ownsRow w.heap.size 9 1 (.slice (some ⟨w.heap.size, 0, none⟩) 0 0) (accL xs 0).length (valsOf (accL xs 0))) := World.ownsRow_lit w #[] 0 (Nat.le_refl _) (by decide) (by simp)
  go_enter Tryz.func110, Tryz.ntmps110
  go_wp2_with fail
  go_loopw [3, 12] (fun v i wr => ∃ j : Nat, j ≤ xs.length ∧ i = .int .i64 (j : Int) ∧ Hid (wr.ownsRow w.heap.size 9 1 v (accL xs j).length (valsOf (accL xs j))) ∧ Below w.heap.size w wr) (fun _ i _ => xs.length - (intOf i).toNat)
  case atStart => exact ⟨0, Nat.zero_le _, rfl, O0, L0⟩
  case round =>
    clear O0 L0
    obtain ⟨j, hj, rfl, hown, hb⟩ := hrel
    by_cases hlt : j < xs.length
    · obtain h0 | ⟨bk, o, rfl, hbk, hc, hcell⟩ := HX.out.below hb
      · subst h0; simp at hlt
      have cj := hcell j xs[j] (by simp [hlt])
      have hpart := sumS_part xs j hlt
      have hacc := accL_bound xs j
      have HSU := Lib.hid (accL_succ xs j hlt)
      clear hcell
      generalize xs[j] = s at cj hpart HSU
      have hss : s.size ≤ 1000000000 := by omega
      have HPB : Hid ((accL xs j).length + (s.size + 1) ≤ 1000000000) := by show _ ≤ _; omega
      clear hpart hacc
      go_wp2_with fail
      clear cj
      obtain ⟨wo, hwo⟩ : ∃ wo : World, wo = wr := ⟨_, rfl⟩
      rw [← hwo] at hown hb
      have hb0 : Below w.heap.size w wr := by rw [← hwo]; exact hb
      have hown0 : Hid (wr.ownsRow w.heap.size 9 1 u3 (accL xs j).length (valsOf (accL xs j))) := by rw [← hwo]; exact hown
      clear hown hb hwo
      have A0 : Hid (wr.ownsRow w.heap.size 9 1 u3 (accL xs j ++ keepP []).length (valsOf (accL xs j ++ keepP []))) := by rw [show keepP [] = [] from rfl, List.append_nil]; exact hown0
      have hz2' := hz2
      clear hz2
      go_loopw [3, 6, 7] (fun u3i vf vi wi => ∃ (f i : Nat) (pre : List (List UInt8)), i ≤ s.size + 1 ∧ vf = .int .i64 (f : Int) ∧ vi = .int .i64 (i : Int) ∧ Hid (InPart s f i pre) ∧ Hid (wi.ownsRow w.heap.size 9 1 u3i (accL xs j ++ keepP pre).length (valsOf (accL xs j ++ keepP pre))) ∧ Below w.heap.size w wi)
        (fun _ _ vi _ => s.size + 1 - (intOf vi).toNat)
      case atStart => exact ⟨0, 0, [], Nat.zero_le _, rfl, rfl, inPart_zero s, A0, hb0⟩
      case round =>
        clear A0 hown0 hb0
        obtain ⟨f, i, pre, hi1, rfl, rfl, hin, hown2, hb2⟩ := hrel
        by_cases hi2 : i < s.size
        · by_cases hq : s[i] = 44
          · have HN := Lib.hid (inPart_cut hin.out hi2 hq)
            have ht : ((s[i].toNat : Int) != 44) = false := by rw [hq]; rfl
            clear hq
            have hfi := inPart_le hin.out (by omega)
            have hpl := inPart_len hin.out
            have f0 : (0 : Int) ≤ f := by omega
            have f1 : (f : Int) ≤ i := by omega
            have f2 : (i : Int) ≤ s.size := by omega
            have HT := Lib.hid (fun W => trim24 (s.extract f i) (by rw [size_extract s f i (by omega)]; omega) W)
            have hkl : (accL xs j ++ keepP pre).length ≤ 1000000000 := by
              have h1 := HPB.out
              have h2 := keepP_length pre
              rw [List.length_append]
              omega
            have hz2 := hb2.size
            clear hin hpl hfi
            go_wp2_with fail
            refine (HT.out _).mono ?_
            rintro e w' ⟨rfl, rfl⟩
            clear HT
            generalize (s.extract f i).data.toList = y at HN ⊢
            by_cases hemp : trimB y = []
            · have hks : keepP (pre ++ [y]) = keepP pre := by rw [keepP_snoc, hemp]; simp
              have HO : Hid (wr.ownsRow w.heap.size 9 1 u3 (accL xs j ++ keepP (pre ++ [y])).length (valsOf (accL xs j ++ keepP (pre ++ [y])))) := by rw [hks]; exact hown2
              have he1 : (⟨(trimB y).toArray⟩ : ByteArray).toList = [] := by rw [hemp, ByteArray.toList_eq]
              obtain ⟨T, hT⟩ : ∃ T : ByteArray, T = ⟨(trimB y).toArray⟩ := ⟨_, rfl⟩
              rw [← hT] at he1 ⊢
              clear hT hks hemp hown2
              go_wp2_with fail
              go_roundw
              case rel => exact ⟨i + 1, i + 1, pre ++ [y], by omega, by go_num, by go_num, HN, HO, hb2⟩
              case measure => simp [intOf]; omega
            · have hks : keepP (pre ++ [y]) = keepP pre ++ [trimB y] := by rw [keepP_snoc, if_neg (by simpa using hemp)]
              have he1 : (⟨(trimB y).toArray⟩ : ByteArray).toList.isEmpty = false := by
                rw [ByteArray.toList_eq]
                cases h : trimB y with
                | nil => exact absurd h hemp
                | cons a r => rfl
              have hvv : valsOf (accL xs j ++ keepP pre) ++ [Value.string ⟨(trimB y).toArray⟩] = valsOf (accL xs j ++ keepP (pre ++ [y])) := by
                rw [hks]; unfold valsOf; simp
              have hll : (accL xs j ++ keepP pre).length + 1 = (accL xs j ++ keepP (pre ++ [y])).length := by rw [hks]; simp; omega
              have HVV := Lib.hid hvv
              have HLL := Lib.hid hll
              obtain ⟨T, hT⟩ : ∃ T : ByteArray, T = ⟨(trimB y).toArray⟩ := ⟨_, rfl⟩
              rw [← hT] at he1 HVV ⊢
              have hrow := hown2.out
              obtain ⟨k, hk⟩ : ∃ k, k = (accL xs j ++ keepP pre).length := ⟨_, rfl⟩
              rw [← hk] at hrow hkl HLL
              clear hT hks hemp hvv hll hk hown2
              go_wp2_with (at_builtin; refine wpList_append_own _ rfl _ _ 88 rfl w.heap.size 9 i0 (.string ⟨#[]⟩) 1 16 Tryz.underlying88 hi hz0 hz1 hz2' rfl (by decide) _ _ _ rfl (hrow.alloc _) ⟨wr.heap.size, 0, none⟩ 1 1 [.string T] rfl rfl (cell_one_new _ _ _) (one_str T) (by unfold maxLen; omega) (by omega) (by simp; omega) ?_)
              intro v2 w1 hown' hgrow _
              have hb3 : Below w.heap.size w w1 := (hb2.alloc hz2 _).grown hgrow (by simp; omega) (fun q hq => (hrow.lt q hq).1)
              have HO : Hid (w1.ownsRow w.heap.size 9 1 v2 (accL xs j ++ keepP (pre ++ [y])).length (valsOf (accL xs j ++ keepP (pre ++ [y])))) := by
                show w1.ownsRow _ _ _ _ _ _
                rw [← HVV.out, ← HLL.out]
                exact hown'
              clear hown' hgrow hrow
              go_wp2_with fail
              go_roundw
              case rel => exact ⟨i + 1, i + 1, pre ++ [y], by omega, by go_num, by go_num, HN, HO, hb3⟩
              case measure => simp [intOf]; omega
          · have HN := Lib.hid (inPart_go hin.out hi2 hq)
            have ht : ((s[i].toNat : Int) != 44) = true := by
              rw [bne, show (44 : Int) = ((44 : UInt8).toNat : Int) from rfl, byte_eq]
              simp [hq]
            clear hq
            go_wp2_with fail
            go_roundw
            case rel => exact ⟨f, i + 1, pre, by omega, rfl, by go_num, HN, hown2, hb2⟩
            case measure => simp [intOf]; omega
        · by_cases hi3 : i = s.size
          · have HN : Hid (InPart s (i + 1) (i + 1) (pre ++ [(s.extract f i).data.toList])) := by
              show InPart _ _ _ _
              have h := hin.out
              rw [hi3] at h ⊢
              exact inPart_end h
            have hle : i ≤ s.size := by omega
            clear hi3
            have hfi := inPart_le hin.out (by omega)
            have hpl := inPart_len hin.out
            have f0 : (0 : Int) ≤ f := by omega
            have f1 : (f : Int) ≤ i := by omega
            have f2 : (i : Int) ≤ s.size := by omega
            have HT := Lib.hid (fun W => trim24 (s.extract f i) (by rw [size_extract s f i (by omega)]; omega) W)
            have hkl : (accL xs j ++ keepP pre).length ≤ 1000000000 := by
              have h1 := HPB.out
              have h2 := keepP_length pre
              rw [List.length_append]
              omega
            have hz2 := hb2.size
            clear hin hpl hfi
            go_wp2_with fail
            refine (HT.out _).mono ?_
            rintro e w' ⟨rfl, rfl⟩
            clear HT
            generalize (s.extract f i).data.toList = y at HN ⊢
            by_cases hemp : trimB y = []
            · have hks : keepP (pre ++ [y]) = keepP pre := by rw [keepP_snoc, hemp]; simp
              have HO : Hid (wr.ownsRow w.heap.size 9 1 u3 (accL xs j ++ keepP (pre ++ [y])).length (valsOf (accL xs j ++ keepP (pre ++ [y])))) := by rw [hks]; exact hown2
              have he1 : (⟨(trimB y).toArray⟩ : ByteArray).toList = [] := by rw [hemp, ByteArray.toList_eq]
              obtain ⟨T, hT⟩ : ∃ T : ByteArray, T = ⟨(trimB y).toArray⟩ := ⟨_, rfl⟩
              rw [← hT] at he1 ⊢
              clear hT hks hemp hown2
              go_wp2_with fail
              go_roundw
              case rel => exact ⟨i + 1, i + 1, pre ++ [y], by omega, by go_num, by go_num, HN, HO, hb2⟩
              case measure => simp [intOf]; omega
            · have hks : keepP (pre ++ [y]) = keepP pre ++ [trimB y] := by rw [keepP_snoc, if_neg (by simpa using hemp)]
              have he1 : (⟨(trimB y).toArray⟩ : ByteArray).toList.isEmpty = false := by
                rw [ByteArray.toList_eq]
                cases h : trimB y with
                | nil => exact absurd h hemp
                | cons a r => rfl
              have hvv : valsOf (accL xs j ++ keepP pre) ++ [Value.string ⟨(trimB y).toArray⟩] = valsOf (accL xs j ++ keepP (pre ++ [y])) := by
                rw [hks]; unfold valsOf; simp
              have hll : (accL xs j ++ keepP pre).length + 1 = (accL xs j ++ keepP (pre ++ [y])).length := by rw [hks]; simp; omega
              have HVV := Lib.hid hvv
              have HLL := Lib.hid hll
              obtain ⟨T, hT⟩ : ∃ T : ByteArray, T = ⟨(trimB y).toArray⟩ := ⟨_, rfl⟩
              rw [← hT] at he1 HVV ⊢
              have hrow := hown2.out
              obtain ⟨k, hk⟩ : ∃ k, k = (accL xs j ++ keepP pre).length := ⟨_, rfl⟩
              rw [← hk] at hrow hkl HLL
              clear hT hks hemp hvv hll hk hown2
              go_wp2_with (at_builtin; refine wpList_append_own _ rfl _ _ 88 rfl w.heap.size 9 i0 (.string ⟨#[]⟩) 1 16 Tryz.underlying88 hi hz0 hz1 hz2' rfl (by decide) _ _ _ rfl (hrow.alloc _) ⟨wr.heap.size, 0, none⟩ 1 1 [.string T] rfl rfl (cell_one_new _ _ _) (one_str T) (by unfold maxLen; omega) (by omega) (by simp; omega) ?_)
              intro v2 w1 hown' hgrow _
              have hb3 : Below w.heap.size w w1 := (hb2.alloc hz2 _).grown hgrow (by simp; omega) (fun q hq => (hrow.lt q hq).1)
              have HO : Hid (w1.ownsRow w.heap.size 9 1 v2 (accL xs j ++ keepP (pre ++ [y])).length (valsOf (accL xs j ++ keepP (pre ++ [y])))) := by
                show w1.ownsRow _ _ _ _ _ _
                rw [← HVV.out, ← HLL.out]
                exact hown'
              clear hown' hgrow hrow
              go_wp2_with fail
              go_roundw
              case rel => exact ⟨i + 1, i + 1, pre ++ [y], by omega, by go_num, by go_num, HN, HO, hb3⟩
              case measure => simp [intOf]; omega
          · have hp : Hid (pre = parts 44 s.data.toList) := by
              rcases hin.out with ⟨h1, _⟩ | ⟨_, h2⟩
              · omega
              · exact h2
            have HO : Hid (wr.ownsRow w.heap.size 9 1 u3 (accL xs (j + 1)).length (valsOf (accL xs (j + 1)))) := by
              show wr.ownsRow _ _ _ _ _ _
              rw [HSU.out, ← hp.out]
              exact hown2
            have hgt : ¬ (i : Int) ≤ s.size := by omega
            clear hin hown2 hp
            go_wp2_with fail
            go_roundw
            case rel => exact ⟨j + 1, hlt, by go_num, HO, hb2⟩
            case measure => simp [intOf]; omega
    · obtain rfl : j = xs.length := by omega
      go_wp2_with fail
      go_ret
      exact ⟨_, rfl, hown.out, hb⟩
end Go.Proofs.YtbbphklhnngjmaaGreatDoor

/- The walk of the statement FieldsDrops. -/
namespace Go.Proofs.YtbbphklhnngjmaaGreatDoor
open Go.RowKit

theorem isB_has (x : ByteArray) (r : List ByteArray) (f : Fld) : hasB (x :: r) f = (isB x f || hasB r f) := by
  unfold hasB isB
  rw [List.any_cons]
  congr 1
  exact decide_eq_decide.2 ⟨fun h => h.symm, fun h => h.symm⟩
theorem drops_all : ∀ (ns : List ByteArray) (fs : List Fld), ns.foldl (fun w x => dropR x w) fs = dropL ns fs
  | [], fs => by
    unfold dropL
    exact (List.filter_eq_self.2 (fun _ _ => rfl)).symm
  | x :: r, fs => by
    rw [List.foldl_cons, drops_all r]
    unfold dropL dropR
    rw [List.filter_filter]
    congr 1
    funext f
    rw [isB_has, Bool.not_or, Bool.and_comm]
def curF (ns : List ByteArray) (fs : List Fld) (j : Nat) : List Fld := (ns.take j).foldl (fun w x => dropR x w) fs
theorem curF_step {ns : List ByteArray} {fs : List Fld} {j : Nat} (hj : j < ns.length) : curF ns fs (j + 1) = dropR ns[j] (curF ns fs j) := by
  unfold curF
  rw [List.take_add_one, List.getElem?_eq_getElem hj, Option.toList_some, List.foldl_append]
  rfl
theorem fewF_ok (fs : List Fld) (n : Nat) : ∀ f ∈ fewF fs n, FldOk f := by
  intro f hf
  unfold fewF at hf
  obtain ⟨g, _, rfl⟩ := List.mem_map.1 hf
  exact ⟨by simp; omega, by simp; omega⟩
theorem dropR_mem {x : ByteArray} {fs : List Fld} {f : Fld} (h : f ∈ dropR x fs) : f ∈ fs := (List.mem_filter.1 h).1
theorem fewS_mem {xs : List ByteArray} {n m : Nat} {x : ByteArray} (h : x ∈ fewS xs n m) : x.size ≤ m := by
  unfold fewS at h
  obtain ⟨y, _, rfl⟩ := List.mem_map.1 h
  exact cutS_size y m
theorem fewS_len (xs : List ByteArray) (n m : Nat) : (fewS xs n m).length ≤ n := by
  unfold fewS
  simp
  omega
theorem drop54s (a : Option Addr) (c : Nat) (fs : List Fld) (x : ByteArray) (hfl : fs.length ≤ 1000000) (hok : ∀ f ∈ fs, FldOk f) (hx : x.size ≤ 4000000000) (gs : List Fld) (hg : gs = dropR x fs) (w : World) (hf : IsFlds w a c fs) :
    Calls Tryz.prog 20 #[.slice a fs.length c, .string x] w fun e w' => ∃ b d, e = .returned (.slice b gs.length d) ∧ IsFlds w' b d gs ∧ Below w.heap.size w w' := by
  subst hg
  refine (drop54 a c fs x hfl hok hx w hf).mono ?_
  rintro e w' ⟨u, rfl, ho, hb⟩
  obtain ⟨b, d, rfl, _, h2⟩ := own_isFldsT ho
  exact ⟨b, d, rfl, h2, hb⟩
theorem own40n (a : Option Addr) (c : Nat) (fs : List Fld) (hfl : fs.length ≤ 1000000) (w : World) (hf : IsFlds w a c fs) :
    Calls Tryz.prog 36 #[.slice a fs.length c] w fun e w' => ∃ b d, e = .returned (.slice b fs.length d) ∧ (b = none → d = 0 ∧ fs = []) ∧ IsFlds w' b d fs ∧ Below w.heap.size w w' := by
  refine (own40 a c fs hfl w hf).mono ?_
  rintro e w' ⟨u, rfl, ho, hb⟩
  obtain ⟨b, d, rfl, h1, h2⟩ := own_isFldsT ho
  exact ⟨b, d, rfl, h1, h2, hb⟩
end Go.Proofs.YtbbphklhnngjmaaGreatDoor

/- fields: Tokens; the reference's Tokens. fields: Tokens. What the walk of FieldsLists calls, in one form; the append of a slice of fields that may be nil. -/
namespace Go.Proofs.YtbbphklhnngjmaaGreatDoor
open Go.RowKit

theorem parts_mem (c : UInt8) : ∀ (l p : List UInt8), p ∈ parts c l → p.length ≤ l.length
  | [], p, h => by
    simp [parts] at h
    subst h; simp
  | b :: r, p, h => by
    unfold parts at h
    split at h
    · rcases List.mem_cons.1 h with rfl | h
      · simp
      · have := parts_mem c r p h
        rw [List.length_cons]; omega
    · split at h
      · rename_i q ps e
        rcases List.mem_cons.1 h with rfl | h
        · have := parts_mem c r q (by rw [e]; exact List.mem_cons_self)
          rw [List.length_cons, List.length_cons]; omega
        · have := parts_mem c r p (by rw [e]; exact List.mem_cons_of_mem _ h)
          rw [List.length_cons]; omega
      · rename_i e
        exact absurd e (parts_ne c r)
theorem keepP_mem {ps : List (List UInt8)} {p : List UInt8} (h : p ∈ keepP ps) : ∃ q ∈ ps, p.length ≤ q.length := by
  unfold keepP at h
  obtain ⟨q, hq, rfl⟩ := List.mem_map.1 (List.mem_filter.1 h).1
  exact ⟨q, hq, trimB_length q⟩
theorem sumS_mem {xs : List ByteArray} {x : ByteArray} (h : x ∈ xs) : x.size + 1 ≤ sumS xs := by
  induction xs with
  | nil => cases h
  | cons a r ih =>
    have e : sumS (a :: r) = a.size + 1 + sumS r := by simp [sumS]
    rw [e]
    rcases List.mem_cons.1 h with rfl | h
    · omega
    · have := ih h; omega
theorem listP_mem {xs : List ByteArray} {l : List UInt8} (h : l ∈ listP xs) : l.length ≤ sumS xs := by
  unfold listP accL at h
  obtain ⟨ls, hls, hl⟩ := List.mem_flatten.1 h
  obtain ⟨x, hx, rfl⟩ := List.mem_map.1 hls
  obtain ⟨q, hq, hlq⟩ := keepP_mem hl
  have h1 := parts_mem 44 _ _ hq
  have h2 := sumS_mem (List.mem_of_mem_take hx)
  have h3 := Lib.size_eq x
  omega
theorem listP_len (xs : List ByteArray) : (listP xs).length ≤ sumS xs := by
  have := accL_bound xs xs.length
  rwa [List.take_of_length_le (Nat.le_refl _)] at this
/-- Texts read out of a row of the call's own. -/
theorem own_isStrsB {w : World} {base : Nat} {v : Value} {ys : List ByteArray} (h : w.ownsRow base 9 1 v ys.length (ys.map Value.string)) : ∃ a c, v = .slice a ys.length c ∧ IsStrs w a c ys ∧ ∀ A, a = some A → base ≤ A.block := by
  have h0 := h
  obtain ⟨_, ⟨rfl, h1⟩ | ⟨g, cap, cur, rfl, hg, _⟩⟩ := h
  · exact ⟨none, 0, by rw [h1], isStrs_of_row (by rw [h1] at h0; rw [h1]; exact h0) rfl, fun A e => by cases e⟩
  · exact ⟨some ⟨g, 0, none⟩, cap, rfl, isStrs_of_row h0 rfl, fun A e => by cases e; exact hg⟩
theorem IsStrs.grown {w w' : World} {row : Option Nat} {a : Option Addr} {c : Nat} {xs : List ByteArray} (h : IsStrs w a c xs) (hg : w.grownBy w' row) (hr : ∀ A, a = some A → row ≠ some A.block) : IsStrs w' a c xs := by
  obtain h | ⟨bk, o, rfl, hlt, hc, hcell⟩ := h
  · exact .inl h
  · refine .inr ⟨bk, o, rfl, Nat.lt_of_lt_of_le hlt hg.size, hc, fun j x hx => ?_⟩
    have hb := hg.block bk hlt (fun e => hr _ rfl e.symm)
    rw [← hcell j x hx]
    unfold World.cell?
    rw [hb]
theorem valsOf_bs (T : List (List UInt8)) : valsOf T = (bsOf T).map Value.string := by
  unfold valsOf bsOf
  rw [List.map_map]
  rfl
theorem lowR (l : List UInt8) (hl : l.length ≤ 1000000000) (w : World) :
    Calls Tryz.prog 24 #[.string (bs l)] w fun e w' => e = .returned (.string (bs (l.map lowC))) ∧ Below w.heap.size w w' :=
  lower21 (bs l) (by rw [bs_size]; omega) w
theorem lowP (l : List UInt8) (hl : l.length ≤ 1000000000) (w : World) :
    Calls Tryz.prog 121 #[.string (bs l)] w fun e w' => e = .returned (.string (bs (l.map lowC))) ∧ Below w.heap.size w w' :=
  lower20 (bs l) (by rw [bs_size]; omega) w
theorem rall41s (a : Option Addr) (c : Nat) (fs : List Fld) (x : ByteArray) (hfl : fs.length ≤ 1000000) (hok : ∀ f ∈ fs, FldOk f) (hx : x.size ≤ 4000000000) (w : World) (hf : IsFlds w a c fs) :
    Calls Tryz.prog 49 #[.slice a fs.length c, .string x] w fun e w' => ∃ b d, e = .returned (.slice b (allB x fs).length d) ∧ IsStrs w' b d (allB x fs) ∧ Below w.heap.size w w' := by
  refine (rall41 a c fs x hfl hok hx w hf).mono ?_
  rintro e w' ⟨u, rfl, ho, hb⟩
  obtain ⟨b, d, rfl, hs, _⟩ := own_isStrsB ho
  exact ⟨b, d, rfl, hs, hb⟩
theorem all44s (a : Option Addr) (c : Nat) (fs : List Fld) (x : ByteArray) (hfl : fs.length ≤ 1000000) (hok : ∀ f ∈ fs, FldOk f) (w : World) (hf : IsFlds w a c fs) :
    Calls Tryz.prog 43 #[.slice a fs.length c, .string x] w fun e w' => ∃ b d, e = .returned (.slice b (allB x fs).length d) ∧ IsStrs w' b d (allB x fs) ∧ Below w.heap.size w w' := by
  refine (all44 a c fs x hfl hok w hf).mono ?_
  rintro e w' ⟨u, rfl, ho, hb⟩
  obtain ⟨b, d, rfl, hs, _⟩ := own_isStrsB ho
  exact ⟨b, d, rfl, hs, hb⟩
theorem list34b (a : Option Addr) (c : Nat) (xs : List ByteArray) (hsum : sumS xs ≤ 1000000000) (w : World) (hx : IsStrs w a c xs) :
    Calls Tryz.prog 110 #[.slice a xs.length c] w fun e w' => ∃ b d, e = .returned (.slice b (listP xs).length d) ∧ IsStrs w' b d (bsOf (listP xs)) ∧ (∀ A, b = some A → w.heap.size ≤ A.block) ∧ Below w.heap.size w w' := by
  refine (list34 a c xs hsum w hx).mono ?_
  rintro e w' ⟨u, rfl, ho, hb⟩
  rw [valsOf_bs, ← bsOf_length] at ho
  obtain ⟨b, d, rfl, hs, hA⟩ := own_isStrsB ho
  exact ⟨b, d, by rw [bsOf_length], hs, hA, hb⟩
/-- The tokens of the values of a name. -/
def tokF (x : ByteArray) (fs : List Fld) : List (List UInt8) := (listP (allB x fs)).map (List.map lowC)
theorem tokF_step {T : List (List UInt8)} {j : Nat} (hj : j < T.length) : valsOf ((T.map (List.map lowC)).take (j + 1)) = valsOf ((T.map (List.map lowC)).take j) ++ [.string (bs (T[j].map lowC))] := by
  unfold valsOf
  rw [List.take_add_one, List.getElem?_eq_getElem (by rw [List.length_map]; exact hj), Option.toList_some, List.map_append, List.getElem_map]
  rfl
set_option maxHeartbeats 4000000 in
set_option maxRecDepth 100000 in
theorem rtokens53 (a : Option Addr) (c : Nat) (fs : List Fld) (x : ByteArray) (hfl : fs.length ≤ 1000000) (hok : ∀ f ∈ fs, FldOk f) (hx : x.size ≤ 4000000000) (hsum : sumS (allB x fs) ≤ 1000000000) (w : World) (hf : IsFlds w a c fs) :
    Calls Tryz.prog 84 #[.slice a fs.length c, .string x] w fun e w' => ∃ u, e = .returned u ∧ w'.ownsRow w.heap.size 9 1 u (tokF x fs).length (valsOf (tokF x fs)) ∧ Below w.heap.size w w' := by
  obtain ⟨i0, hi, hz0, hz1, hz2⟩ := info_parts info9
  have L0 := Lib.hid (below_alloc w (.cells #[] 9))
  have O0 := Lib.hid (World.ownsRow_lit (base := w.heap.size) (size := 1) (e := 9) w #[] 0 (Nat.le_refl _) (by decide) (by simp))
  have HAL := Lib.hid (fun W h => rall41s a c fs x hfl hok hx W h)
  have HLI := Lib.hid (fun b d W h => list34b b d (allB x fs) hsum W h)
  have HTL : Hid (∀ l ∈ listP (allB x fs), l.length ≤ 1000000000) := fun l h => Nat.le_trans (listP_mem h) hsum
  have hTN : (listP (allB x fs)).length ≤ 1000000000 := Nat.le_trans (listP_len _) hsum
  unfold tokF
  generalize listP (allB x fs) = T at *
  have F0 := Lib.hid (hf.below L0.out)
  have hsz0 : (w.alloc (.cells #[] 9)).heap.size = w.heap.size + 1 := World.size_alloc _ _
  clear hf hok hsum
  go_enter Tryz.func84, Tryz.ntmps84
  go_wp2_with fail
  refine (HAL.out _ F0.out).mono ?_
  rintro e w1 ⟨b1, d1, rfl, hs1, hb1⟩
  have O1 := Lib.hid (own_below O0.out hb1)
  have L1 := Lib.hid (L0.out.trans (hb1.mono L0.out.size))
  have S1 := Lib.hid hs1
  have hg1 := hb1.size
  clear hs1 hb1 O0 L0 F0 HAL
  go_wp2_with fail
  refine (HLI.out _ _ w1 S1.out).mono ?_
  rintro e w2 ⟨b2, d2, rfl, hs2, hA2, hb2⟩
  have O2 := Lib.hid (own_below O1.out hb2)
  have L2 := Lib.hid (L1.out.trans (hb2.mono L1.out.size))
  have S2 := Lib.hid hs2
  have HA2 : Hid (∀ A, b2 = some A → w.heap.size + 1 ≤ A.block) := fun A e => by have := hA2 A e; omega
  clear hs2 hb2 hA2 O1 L1 S1 HLI
  go_wp2_with fail
  go_loopw [5, 14] (fun v i wr => ∃ j : Nat, j ≤ T.length ∧ i = .int .i64 (j : Int) ∧ Hid (wr.ownsRow w.heap.size 9 1 v j (valsOf ((T.map (List.map lowC)).take j))) ∧ Hid (∀ A, b2 = some A → v.ownBlock ≠ some A.block) ∧ Hid (IsStrs wr b2 d2 (bsOf T)) ∧ Hid (Below w.heap.size w wr)) (fun _ i _ => T.length - (intOf i).toNat)
  case atStart =>
    refine ⟨0, Nat.zero_le _, rfl, ?_, fun A e => ?_, S2, L2⟩
    · exact O2.out
    · have := HA2.out A e
      simp [Value.ownBlock]; omega
  case round =>
    clear O2 L2 S2
    obtain ⟨j, hj, rfl, ho, hd, hs, hb⟩ := hrel
    by_cases hlt : j < T.length
    · obtain h0 | ⟨bk, o, rfl, hbk, hc, hcell⟩ := hs.out
      · have := bsOf_length T; rw [h0] at this; simp at this; omega
      have cj := hcell j (bs T[j]) (by simp [bsOf, hlt, bs])
      have hst := tokF_step hlt
      have HLW := Lib.hid (fun W (_ : True) => lowR T[j] (HTL.out _ (List.getElem_mem hlt)) W)
      have HST := Lib.hid hst
      generalize bs (T[j].map lowC) = M at *
      generalize bs T[j] = Y at *
      clear hcell hst
      have j1 : (j : Int) < T.length := by omega
      have hgr := hb.out.size
      go_wp2_with fail
      refine (HLW.out wr trivial).mono ?_
      rintro e wb ⟨rfl, hbb⟩
      have B2 := Lib.hid (hb.out.trans (hbb.mono hb.out.size))
      have O2 := Lib.hid (own_below ho.out hbb)
      have S2 := Lib.hid (hs.out.below hbb)
      have hbk2 : bk < wb.heap.size := Nat.lt_of_lt_of_le hbk hbb.size
      clear hbb ho hs hb
      have HO2 : Hid ((wb.alloc (.cells #[.string M] 9)).ownsRow w.heap.size 9 1 _ j _) := O2.out.alloc _
      have hb2 : Hid (Below w.heap.size w (wb.alloc (.cells #[.string M] 9))) := B2.out.alloc B2.out.size _
      have hs2 : Hid (IsStrs (wb.alloc (.cells #[.string M] 9)) (some ⟨bk, o, none⟩) d2 (bsOf T)) := S2.out.below (below_alloc wb _)
      have hbz := B2.out.size
      have hsz : (wb.alloc (.cells #[.string M] 9)).heap.size = wb.heap.size + 1 := World.size_alloc _ _
      clear O2 B2 S2
      go_wp2_with (at_builtin; refine wpList_append_own_at _ rfl _ _ 88 rfl w.heap.size 9 i0 (.string ⟨#[]⟩) 1 16 Tryz.underlying88 hi hz0 hz1 hz2 rfl (by decide) _ _ _ rfl HO2.out ⟨wb.heap.size, 0, none⟩ 1 1 [.string M] rfl rfl (cell_one_new _ _ _) (by intro u hu; simp at hu; subst hu; rfl) (by unfold maxLen; omega) (by omega) (by simp; omega) ?_)
      intro v' w2 hown' hgrow _ hat
      have hb3 : Hid (Below w.heap.size w w2) := hb2.out.grown hgrow hb2.out.size (fun k hk => (HO2.out.lt k hk).1)
      have hs3 : Hid (IsStrs w2 (some ⟨bk, o, none⟩) d2 (bsOf T)) := hs2.out.grown hgrow (fun A e => hd.out A e)
      have hd3 : Hid (∀ A, some (⟨bk, o, none⟩ : Addr) = some A → v'.ownBlock ≠ some A.block) := fun A e => by
        rcases hat with h | h
        · rw [h]; exact hd.out A e
        · rw [h]
          obtain rfl := Option.some.inj e
          simp
          omega
      rw [← HST.out] at hown'
      have HO3 := Lib.hid hown'
      clear hown' hgrow hb2 HO2 hs2 hat
      go_wp2_with fail
      go_roundw
      case rel => exact ⟨j + 1, hlt, by go_num, HO3, hd3, hs3, hb3⟩
      case measure => simp [intOf]; omega
    · obtain rfl : j = T.length := by omega
      have ho2 := ho.out
      rw [List.take_of_length_le (by simp)] at ho2
      rw [show T.length = (T.map (List.map lowC)).length by simp] at ho2
      have HO := Lib.hid ho2
      clear ho ho2
      go_wp2_with fail
      go_ret
      exact ⟨_, rfl, HO.out, hb.out⟩
end Go.Proofs.YtbbphklhnngjmaaGreatDoor
namespace Go.Proofs.YtbbphklhnngjmaaGreatDoor
open Go.RowKit

/-- The tokens while they are made small. -/
def mixT (T : List (List UInt8)) (j : Nat) : List (List UInt8) := (T.take j).map (List.map lowC) ++ T.drop j
theorem mixT_len (T : List (List UInt8)) (j : Nat) (hj : j ≤ T.length) : (mixT T j).length = T.length := by
  unfold mixT
  simp
  omega
theorem mixT_at {T : List (List UInt8)} {j : Nat} (hj : j < T.length) : (valsOf (mixT T j))[j]? = some (.string (bs T[j])) := by
  unfold valsOf mixT
  rw [List.getElem?_map, List.getElem?_append_right (by simp; omega), List.length_map, List.length_take, Nat.min_eq_left (by omega), Nat.sub_self, List.getElem?_drop, Nat.add_zero, List.getElem?_eq_getElem hj]
  rfl
theorem mixT_step {T : List (List UInt8)} {j : Nat} (hj : j < T.length) : (valsOf (mixT T j)).set j (.string (bs (T[j].map lowC))) = valsOf (mixT T (j + 1)) := by
  have e : T.drop j = T[j] :: T.drop (j + 1) := (List.getElem_cons_drop hj).symm
  have h1 : (mixT T j).set j (T[j].map lowC) = mixT T (j + 1) := by
    unfold mixT
    rw [List.set_append_right _ _ (by simp; omega), List.length_map, List.length_take, Nat.min_eq_left (by omega), Nat.sub_self, e, List.set_cons_zero, List.take_add_one, List.getElem?_eq_getElem hj, Option.toList_some, List.map_append, List.append_assoc]
    rfl
  rw [← h1]
  unfold valsOf
  rw [List.map_set]
  rfl
set_option maxHeartbeats 4000000 in
set_option maxRecDepth 100000 in
theorem tokens52 (a : Option Addr) (c : Nat) (fs : List Fld) (x : ByteArray) (hfl : fs.length ≤ 1000000) (hok : ∀ f ∈ fs, FldOk f) (hsum : sumS (allB x fs) ≤ 1000000000) (w : World) (hM : MaxL w) (hf : IsFlds w a c fs) :
    Calls Tryz.prog 100 #[.slice a fs.length c, .string x] w fun e w' => ∃ u, e = .returned u ∧ w'.ownsRow w.heap.size 9 1 u (tokF x fs).length (valsOf (tokF x fs)) ∧ Below w.heap.size w w' := by
  have HAL := Lib.hid (all44s a c fs x hfl hok w hf)
  have HLI := Lib.hid (fun b d W h hM => callsIn_wide.1 (list33 b d (allB x fs) hsum W h hM))
  have HTL : Hid (∀ l ∈ listP (allB x fs), l.length ≤ 1000000000) := fun l h => Nat.le_trans (listP_mem h) hsum
  have hTN : (listP (allB x fs)).length ≤ 1000000000 := Nat.le_trans (listP_len _) hsum
  have HM := Lib.hid hM
  unfold tokF
  generalize listP (allB x fs) = T at *
  clear hf hok hsum hM
  go_enter Tryz.func100, Tryz.ntmps100
  go_wp2_with fail
  refine HAL.out.mono ?_
  rintro e w1 ⟨b1, d1, rfl, hs1, hb1⟩
  have S1 := Lib.hid hs1
  have HM1 := Lib.hid (HM.out.below hb1)
  have L1 := Lib.hid hb1
  clear hs1 hb1 HAL HM
  go_wp2_with fail
  refine (HLI.out _ _ w1 S1.out HM1.out).mono ?_
  rintro e w2 ⟨u2, rfl, ho2, hb2⟩
  have L2 := Lib.hid (L1.out.trans (hb2.mono L1.out.size))
  have ho3 := own_mono ho2 L1.out.size
  clear ho2 hb2 L1 S1 HM1 HLI
  have h00 := ho3
  obtain ⟨_, ⟨rfl, h1⟩ | ⟨g, cap, cur, rfl, hg, _, hcap, _⟩⟩ := ho3
  · obtain rfl : T = [] := List.eq_nil_of_length_eq_zero h1
    have H0 := Lib.hid h00
    clear h00 h1
    go_wp2_with fail
    go_loopw [14] (fun i wr => i = .int .i64 0 ∧ wr = w2) (fun _ _ => 0)
    case atStart => exact ⟨rfl, rfl⟩
    case round =>
      obtain ⟨rfl, rfl⟩ := hrel
      go_wp2_with fail
      go_ret
      exact ⟨_, rfl, H0.out, L2.out⟩
  · have O2 : Hid (w2.ownsRow w.heap.size 9 1 (.slice (some ⟨g, 0, none⟩) T.length cap) T.length (valsOf (mixT T 0))) := by
      show World.ownsRow _ _ _ _ _ _ _
      unfold mixT
      simpa using h00
    clear h00
    go_wp2_with fail
    go_loopw [14] (fun i wr => ∃ j : Nat, j ≤ T.length ∧ i = .int .i64 (j : Int) ∧ Hid (wr.ownsRow w.heap.size 9 1 (.slice (some ⟨g, 0, none⟩) T.length cap) T.length (valsOf (mixT T j))) ∧ Hid (Below w.heap.size w wr)) (fun i _ => T.length - (intOf i).toNat)
    case atStart => exact ⟨0, Nat.zero_le _, rfl, O2, L2⟩
    case round =>
      clear O2 L2
      obtain ⟨j, hj, rfl, ho, hb⟩ := hrel
      by_cases hlt : j < T.length
      · have cj := (ho.out.cellAt j (by omega)).trans (mixT_at hlt)
        have HLW := Lib.hid (fun W (_ : True) => lowP T[j] (HTL.out _ (List.getElem_mem hlt)) W)
        have HST := Lib.hid (mixT_step hlt)
        have hat := mixT_at hlt
        generalize bs (T[j].map lowC) = M at *
        generalize bs T[j] = Y at *
        have HAT := Lib.hid hat
        have j1 : (j : Int) < T.length := by omega
        clear hat
        go_wp2_with fail
        refine (HLW.out wr trivial).mono ?_
        rintro e wb ⟨rfl, hbb⟩
        have B2 := Lib.hid (hb.out.trans (hbb.mono hb.out.size))
        have O2 := Lib.hid (own_below ho.out hbb)
        have ck := (O2.out.cellAt j (by omega)).trans HAT.out
        have cf := O2.out.frozenAt j
        have hst := O2.out.stored j (.string M)
        have B3 := Lib.hid (B2.out.setCell (p := ⟨g, j, none⟩) hg (.string M))
        have O3 : Hid ((wb.setCell ⟨g, j, none⟩ (.string M)).ownsRow w.heap.size 9 1 (.slice (some ⟨g, 0, none⟩) T.length cap) T.length (valsOf (mixT T (j + 1)))) := by
          rw [← HST.out]; exact hst.1
        clear hbb ho hb hst O2 B2 cj HLW HST HAT
        go_wp2_with fail
        go_roundw
        case rel => exact ⟨j + 1, hlt, by go_num, O3, B3⟩
        case measure => simp [intOf]; omega
      · obtain rfl : j = T.length := by omega
        have ho2 := ho.out
        have e : mixT T T.length = T.map (List.map lowC) := by unfold mixT; simp
        rw [e] at ho2
        have HO : Hid (wr.ownsRow w.heap.size 9 1 (.slice (some ⟨g, 0, none⟩) T.length cap) (T.map (List.map lowC)).length (valsOf (T.map (List.map lowC)))) := by rw [List.length_map]; exact ho2
        clear ho ho2 e
        go_wp2_with fail
        go_ret
        exact ⟨_, rfl, HO.out, hb.out⟩
end Go.Proofs.YtbbphklhnngjmaaGreatDoor
namespace Go.Proofs.YtbbphklhnngjmaaGreatDoor
open Go.RowKit

theorem wpList_wanted {P : Program} {w : World} {ops : Array Oper} {rest : List Oper} {o : Oper} {a : Act} {Q : Exit → Act → World → Prop} (j d : Nat) (hg : o.guard = some (j, true)) (hj : (ops[j]?).bind (·.dst) = some d) (hd : a.tmps[d]? = some (.bool true))
    (h : ∀ K : Act → World → Prop, (∀ a w, wpList P ops Q rest a w → K a w) → o.wp P a w K Q) : wpList P ops Q (o :: rest) a w :=
  wpList_step fun K hK => by
    simp only [Region.wanted, hg, yielded, hj, Option.bind_some, hd, beq_self_eq_true, if_true]
    exact h K hK
theorem wpList_append_flds {w : World} {ops : Array Oper} {rest : List Oper} {o : Oper} {a : Act} {Q : Exit → Act → World → Prop} (gj gd : Nat) (hgd : o.guard = some (gj, true)) (hgj : (ops[gj]?).bind (·.dst) = some gd) (hgv : a.tmps[gd]? = some (.bool true)) (s x : Operand)
    (ho : o.op = .call { callee := .builtin .append, args := #[s, x], argTypes := #[22, 22] })
    (base : Nat) (v : Value) (n : Nat) (xs : List Value) (hs : a.eval s = v) (hown : w.ownsRow base 53 2 v n xs)
    (b : Option Addr) (d : Nat) (fs : List Fld) (hx : a.eval x = .slice b fs.length d) (hbn : b = none → d = 0 ∧ fs = []) (hf : IsFlds w b d fs) (hn : n + fs.length ≤ 1000000) (hbase : base ≤ w.heap.size)
    (h : ∀ v' w', w'.ownsRow base 53 2 v' (n + fs.length) (xs ++ cellsF fs) → w.grownBy w' v.ownBlock → wpList Tryz.prog ops Q rest (a.put o.dst v') w') : wpList Tryz.prog ops Q (o :: rest) a w := by
  obtain ⟨i0, hi, hz0, hz1, hz2⟩ := info_parts infoRef
  refine wpList_wanted gj gd hgd hgj hgv fun K hK => ?_
  cases b with
  | none =>
    obtain ⟨rfl, rfl⟩ := hbn rfl
    have hrun := run_append_owned_none (P := Tryz.prog) (w := w) base 22 o.type 53 i0 2 Tryz.underlying22 hi v n xs hown
    unfold Oper.wp
    rw [List.length_nil] at hx
    simp [execOp, ho, resolve, invoke, builtin, hs, hx, hrun, Result.andThen]
    refine hK _ _ (h v w ?_ ⟨rfl, rfl, rfl, Nat.le_refl _, fun _ _ _ => rfl⟩)
    simpa [cellsF] using hown
  | some ad =>
    refine wp_append_own w s x 22 ho base 53 i0 (.agg #[.string ⟨#[]⟩, .string ⟨#[]⟩]) 2 32 Tryz.underlying22 hi hz0 hz1 hz2 rfl (by decide) v n xs hs hown ad fs.length d (cellsF fs) hx (cellsF_length fs) ?_ (cellsF_one fs) (by unfold maxLen; omega) (by omega) hbase (fun v' w' h1 h2 _ => hK _ _ (h v' w' h1 h2))
    intro k u hu
    obtain h0 | ⟨bk, o', ha, hlt, hc, hcell⟩ := hf
    · subst h0; simp [cellsF] at hu
    · cases ha
      exact isFlds_cells hcell k u hu
theorem own40m (a : Option Addr) (c : Nat) (fs : List Fld) (hfl : fs.length ≤ 1000000) (w : World) (hf : IsFlds w a c fs) :
    Calls Tryz.prog 36 #[.slice a fs.length c] w fun e w' => ∃ b d, e = .returned (.slice b fs.length d) ∧ d ≤ 9223372036854775807 ∧ (b = none → d = 0 ∧ fs = []) ∧ IsFlds w' b d fs ∧ Below w.heap.size w w' := by
  refine (own40 a c fs hfl w hf).mono ?_
  rintro e w' ⟨u, rfl, ho, hb⟩
  have ho2 := ho
  obtain ⟨b, d, rfl, h1, h2⟩ := own_isFldsT ho
  refine ⟨b, d, rfl, ?_, h1, h2, hb⟩
  obtain ⟨_, ⟨h3, _⟩ | ⟨g, cap, cur, h3, _, _, _, hcm, _⟩⟩ := ho2
  · injection h3 with e1 e2 e3; omega
  · injection h3 with e1 e2 e3; unfold maxLen at hcm; omega
theorem setF_len (n v : List UInt8) (fs : List Fld) : (setF n v fs).length ≤ fs.length + 1 := by
  have h := outR_len (bs n) (n, v) fs fs.length (Nat.le_refl _)
  rw [List.take_of_length_le (Nat.le_refl _)] at h
  rw [← outR_set]
  split
  · omega
  · rw [List.length_append, List.length_singleton]; omega
theorem set46s (a : Option Addr) (c : Nat) (fs : List Fld) (n v : List UInt8) (hfl : fs.length ≤ 100000000) (hcm : c ≤ 9223372036854775807) (ha : a = none → c = 0 ∧ fs = []) (hok : ∀ f ∈ fs, FldOk f) (w : World) (hf : IsFlds w a c fs) :
    Calls Tryz.prog 44 #[.slice a fs.length c, .string (bs n), .string (bs v)] w fun e w' => ∃ b d, e = .returned (.slice b (setF n v fs).length d) ∧ IsFlds w' b d (setF n v fs) ∧ Below w.heap.size w w' := by
  refine (set46 a c fs n v hfl hcm ha hok w hf).mono ?_
  rintro e w' ⟨u, rfl, ho, hb⟩
  obtain ⟨b, d, rfl, _, h2⟩ := own_isFldsT ho
  exact ⟨b, d, rfl, h2, hb⟩
theorem rset47s (a : Option Addr) (c : Nat) (fs : List Fld) (n v : List UInt8) (hfl : fs.length ≤ 1000000) (hok : ∀ f ∈ fs, FldOk f) (hn : n.length ≤ 4000000000) (w : World) (hf : IsFlds w a c fs) :
    Calls Tryz.prog 50 #[.slice a fs.length c, .string (bs n), .string (bs v)] w fun e w' => ∃ b d, e = .returned (.slice b (setF n v fs).length d) ∧ IsFlds w' b d (setF n v fs) ∧ Below w.heap.size w w' := by
  refine (rset47 a c fs n v hfl hok hn w hf).mono ?_
  rintro e w' ⟨u, rfl, ho, hb⟩
  obtain ⟨b, d, rfl, _, h2⟩ := own_isFldsT ho
  exact ⟨b, d, rfl, h2, hb⟩
theorem add48s (a : Option Addr) (c : Nat) (fs : List Fld) (n v : List UInt8) (hfl : fs.length ≤ 100000000) (ha : a = none → c = 0 ∧ fs = []) (w : World) (hf : IsFlds w a c fs) :
    Calls Tryz.prog 46 #[.slice a fs.length c, .string (bs n), .string (bs v)] w fun e w' => ∃ b d, e = .returned (.slice b (fs ++ [(n, v)]).length d) ∧ IsFlds w' b d (fs ++ [(n, v)]) ∧ Below w.heap.size w w' := by
  refine (add48 a c fs n v hfl ha w hf).mono ?_
  rintro e w' ⟨u, rfl, ho, hb⟩
  obtain ⟨b, d, rfl, _, h2⟩ := own_isFldsT ho
  exact ⟨b, d, rfl, h2, hb⟩
theorem tokens52s (a : Option Addr) (c : Nat) (fs : List Fld) (x : ByteArray) (hfl : fs.length ≤ 1000000) (hok : ∀ f ∈ fs, FldOk f) (hsum : sumS (allB x fs) ≤ 1000000000) (w : World) (hM : MaxL w) (hf : IsFlds w a c fs) :
    Calls Tryz.prog 100 #[.slice a fs.length c, .string x] w fun e w' => ∃ b d, e = .returned (.slice b (bsOf (tokF x fs)).length d) ∧ IsStrs w' b d (bsOf (tokF x fs)) ∧ Below w.heap.size w w' := by
  refine (tokens52 a c fs x hfl hok hsum w hM hf).mono ?_
  rintro e w' ⟨u, rfl, ho, hb⟩
  rw [valsOf_bs, ← bsOf_length] at ho
  obtain ⟨b, d, rfl, hs, _⟩ := own_isStrsB ho
  exact ⟨b, d, rfl, hs, hb⟩
theorem rtokens53s (a : Option Addr) (c : Nat) (fs : List Fld) (x : ByteArray) (hfl : fs.length ≤ 1000000) (hok : ∀ f ∈ fs, FldOk f) (hx : x.size ≤ 4000000000) (hsum : sumS (allB x fs) ≤ 1000000000) (w : World) (hf : IsFlds w a c fs) :
    Calls Tryz.prog 84 #[.slice a fs.length c, .string x] w fun e w' => ∃ b d, e = .returned (.slice b (bsOf (tokF x fs)).length d) ∧ IsStrs w' b d (bsOf (tokF x fs)) ∧ Below w.heap.size w w' := by
  refine (rtokens53 a c fs x hfl hok hx hsum w hf).mono ?_
  rintro e w' ⟨u, rfl, ho, hb⟩
  rw [valsOf_bs, ← bsOf_length] at ho
  obtain ⟨b, d, rfl, hs, _⟩ := own_isStrsB ho
  exact ⟨b, d, rfl, hs, hb⟩
theorem fewF_small (fs : List Fld) (n : Nat) : ∀ f ∈ fewF fs n, f.1.length ≤ 20 ∧ f.2.length ≤ 40 := by
  intro f hf
  unfold fewF at hf
  obtain ⟨g, _, rfl⟩ := List.mem_map.1 hf
  exact ⟨by simp; omega, by simp; omega⟩
theorem textL_small : ∀ (fs : List Fld), (∀ f ∈ fs, f.1.length ≤ 20 ∧ f.2.length ≤ 40) → (textL fs).length ≤ fs.length * 64
  | [], _ => by simp [textL]
  | f :: r, h => by
    have h1 := h f List.mem_cons_self
    have h2 := textL_small r (fun g hg => h g (List.mem_cons_of_mem _ hg))
    have e : (textL (f :: r)).length = (lineL f).length + (textL r).length := by simp [textL]
    have e2 : (lineL f).length = f.1.length + 2 + f.2.length + 2 := by simp [lineL]; omega
    rw [e, e2, List.length_cons]
    omega
theorem sumS_small : ∀ (ys : List ByteArray) (m : Nat), (∀ y ∈ ys, y.size ≤ m) → sumS ys ≤ ys.length * (m + 1)
  | [], m, _ => by simp [sumS]
  | a :: r, m, h => by
    have h1 := sumS_small r m (fun y hy => h y (List.mem_cons_of_mem _ hy))
    have h2 := h a List.mem_cons_self
    have h3 : sumS (a :: r) = a.size + 1 + sumS r := by simp [sumS]
    rw [h3, List.length_cons, Nat.add_mul, Nat.one_mul]
    omega
theorem allB_small {x : ByteArray} {fs : List Fld} (h : ∀ f ∈ fs, f.1.length ≤ 20 ∧ f.2.length ≤ 40) : ∀ y ∈ allB x fs, y.size ≤ 40 := by
  intro y hy
  unfold allB at hy
  obtain ⟨f, hf, rfl⟩ := List.mem_map.1 hy
  rw [bs_size]
  exact (h f (List.mem_filter.1 hf).1).2
end Go.Proofs.YtbbphklhnngjmaaGreatDoor

/- rewrite: lists: the names of fields that are for one connection only. -/
namespace Go.Proofs.YtbbphklhnngjmaaGreatDoor
open Go.RowKit

def hostB : ByteArray := ⟨#[72, 111, 115, 116]⟩
def clenB : ByteArray := ⟨#[67, 111, 110, 116, 101, 110, 116, 45, 76, 101, 110, 103, 116, 104]⟩
def connB : ByteArray := ⟨#[67, 111, 110, 110, 101, 99, 116, 105, 111, 110]⟩
def nineP : List ByteArray := [⟨#[67, 111, 110, 110, 101, 99, 116, 105, 111, 110]⟩, ⟨#[75, 101, 101, 112, 45, 65, 108, 105, 118, 101]⟩, ⟨#[80, 114, 111, 120, 121, 45, 67, 111, 110, 110, 101, 99, 116, 105, 111, 110]⟩, ⟨#[80, 114, 111, 120, 121, 45, 65, 117, 116, 104, 101, 110, 116, 105, 99, 97, 116, 101]⟩, ⟨#[80, 114, 111, 120, 121, 45, 65, 117, 116, 104, 111, 114, 105, 122, 97, 116, 105, 111, 110]⟩, ⟨#[84, 69]⟩, ⟨#[84, 114, 97, 105, 108, 101, 114]⟩, ⟨#[84, 114, 97, 110, 115, 102, 101, 114, 45, 69, 110, 99, 111, 100, 105, 110, 103]⟩, ⟨#[85, 112, 103, 114, 97, 100, 101]⟩]
def nineR : List (List UInt8) := [[99, 111, 110, 110, 101, 99, 116, 105, 111, 110], [107, 101, 101, 112, 45, 97, 108, 105, 118, 101], [112, 114, 111, 120, 121, 45, 99, 111, 110, 110, 101, 99, 116, 105, 111, 110], [112, 114, 111, 120, 121, 45, 97, 117, 116, 104, 101, 110, 116, 105, 99, 97, 116, 101], [112, 114, 111, 120, 121, 45, 97, 117, 116, 104, 111, 114, 105, 122, 97, 116, 105, 111, 110], [116, 101], [116, 114, 97, 105, 108, 101, 114], [116, 114, 97, 110, 115, 102, 101, 114, 45, 101, 110, 99, 111, 100, 105, 110, 103], [117, 112, 103, 114, 97, 100, 101]]
/-- Is a token one that stays? -/
def stayB (x : ByteArray) : Bool := decide (x.data.toList.map lowC = hostB.data.toList.map lowC) || decide (x.data.toList.map lowC = clenB.data.toList.map lowC)
def goes (toks : List ByteArray) : List ByteArray := toks.filter fun x => !stayB x
/-- The names that the program drops. -/
def hopP (toks : List ByteArray) : List ByteArray := nineP ++ goes toks
/-- Is a field hop by hop, as the document says? -/
def hopR (n : List UInt8) (toks : List ByteArray) : Bool := (nineR.any fun h => decide (n.map lowC = h)) || toks.any fun t => decide (n.map lowC = t.data.toList ∧ t.data.toList ≠ hostB.data.toList.map lowC ∧ t.data.toList ≠ clenB.data.toList.map lowC)
def hopsR (toks : List ByteArray) (fs : List Fld) : List Fld := fs.filter fun f => !hopR f.1 toks
theorem nine_low : nineP.map (fun x => x.data.toList.map lowC) = nineR := by decide +kernel
theorem hop_eq (f : Fld) (toks : List ByteArray) (hl : ∀ t ∈ toks, t.data.toList.map lowC = t.data.toList) : hasB (hopP toks) f = hopR f.1 toks := by
  unfold hasB hopP hopR
  rw [List.any_append]
  congr 1
  · rw [← nine_low, List.any_map]
    congr 1
    funext x
    exact decide_eq_decide.2 eq_comm
  · unfold goes
    rw [List.any_filter, Bool.eq_iff_iff, List.any_eq_true, List.any_eq_true]
    constructor
    · rintro ⟨t, ht, h⟩
      refine ⟨t, ht, ?_⟩
      have e := hl t ht
      simp only [stayB, Bool.and_eq_true, Bool.not_eq_true', Bool.or_eq_false_iff, decide_eq_true_eq, decide_eq_false_iff_not] at h
      rw [e] at h
      exact decide_eq_true ⟨h.2.symm, h.1.1, h.1.2⟩
    · rintro ⟨t, ht, h⟩
      refine ⟨t, ht, ?_⟩
      have e := hl t ht
      have h := of_decide_eq_true h
      simp only [stayB, Bool.and_eq_true, Bool.not_eq_true', Bool.or_eq_false_iff, decide_eq_true_eq, decide_eq_false_iff_not]
      rw [e]
      exact ⟨⟨h.2.1, h.2.2⟩, h.1.symm⟩
theorem low_low (l : List UInt8) : (l.map lowC).map lowC = l.map lowC := by
  rw [List.map_map]
  congr 1
  funext b
  exact lowC_low b
theorem tok_low (x : ByteArray) (fs : List Fld) : ∀ t ∈ bsOf (tokF x fs), t.data.toList.map lowC = t.data.toList := by
  intro t ht
  unfold bsOf tokF at ht
  rw [List.map_map] at ht
  obtain ⟨l, _, rfl⟩ := List.mem_map.1 ht
  exact low_low l
theorem hops_eq (x : ByteArray) (fs : List Fld) : dropL (hopP (bsOf (tokF x fs))) fs = hopsR (bsOf (tokF x fs)) fs := by
  unfold dropL hopsR
  congr 1
  funext f
  rw [hop_eq f _ (tok_low x fs)]
theorem allB_caseW {x y : ByteArray} (h : x.data.toList.map lowC = y.data.toList.map lowC) (fs : List Fld) : allB x fs = allB y fs := by
  unfold allB isB
  rw [h]
theorem tok_case {x y : ByteArray} (h : x.data.toList.map lowC = y.data.toList.map lowC) (fs : List Fld) : tokF x fs = tokF y fs := by
  unfold tokF
  rw [allB_caseW h fs]
theorem dropL_len (xs : List ByteArray) (fs : List Fld) : (dropL xs fs).length ≤ fs.length := List.length_filter_le _ _
theorem dropL_mem {xs : List ByteArray} {fs : List Fld} {f : Fld} (h : f ∈ dropL xs fs) : f ∈ fs := (List.mem_filter.1 h).1
theorem tokF_len (x : ByteArray) (fs : List Fld) : (bsOf (tokF x fs)).length ≤ sumS (allB x fs) := by
  unfold bsOf tokF
  rw [List.length_map, List.length_map]
  exact listP_len _
end Go.Proofs.YtbbphklhnngjmaaGreatDoor

/- rewrite: the tokens that stay; slices.IndexFunc, slices.DeleteFunc of texts. -/
namespace Go.Proofs.YtbbphklhnngjmaaGreatDoor
open Go.RowKit

set_option maxRecDepth 100000 in
set_option maxHeartbeats 2000000 in
theorem stays104 (x : ByteArray) (R : Bool) (hR : R = stayB x) (w : World) :
    Calls Tryz.prog 104 #[.string x] w fun e w' => e = .returned (.bool R) ∧ Below w.heap.size w w' := by
  have H1 := Lib.hid (fun q hq W => fold22 x ⟨#[72, 111, 115, 116]⟩ (by decide) q hq W)
  have H2 := Lib.hid (fun q hq W => fold22 x ⟨#[67, 111, 110, 116, 101, 110, 116, 45, 76, 101, 110, 103, 116, 104]⟩ (by decide) q hq W)
  obtain ⟨q1, hq1⟩ : ∃ q, q = decide (x.data.toList.map lowC = hostB.data.toList.map lowC) := ⟨_, rfl⟩
  obtain ⟨q2, hq2⟩ : ∃ q, q = decide (x.data.toList.map lowC = clenB.data.toList.map lowC) := ⟨_, rfl⟩
  have H1' := Lib.hid (H1.out q1 hq1)
  have H2' := Lib.hid (H2.out q2 hq2)
  have HR : R = (q1 || q2) := by rw [hR, hq1, hq2]; rfl
  subst HR
  clear H1 H2 hq1 hq2 hR
  go_enter Tryz.func104, Tryz.ntmps104
  go_wp2_with fail
  refine (H1'.out _).mono ?_
  rintro e w1 ⟨rfl, hb1⟩
  cases q1
  · go_wp2_with fail
    refine (H2'.out _).mono ?_
    rintro e w2 ⟨rfl, hb2⟩
    go_wp2_with fail
    go_ret
    exact ⟨rfl, hb1.trans (hb2.mono hb1.size)⟩
  · go_wp2_with fail
    go_ret
    exact ⟨rfl, hb1⟩
/-- The function value. -/
def staysV : Value := .func (.func 104) #[] #[]
def findS (xs : List ByteArray) : Int := match xs.findIdx? stayB with
  | some i => (i : Int)
  | none => -1
theorem findS_no {xs : List ByteArray} (h : ∀ x ∈ xs, stayB x = false) : findS xs = -1 := by
  unfold findS
  rw [List.findIdx?_eq_none_iff.2 h]
theorem findS_at {xs : List ByteArray} {j : Nat} (hj : j < xs.length) (h : ∀ x ∈ xs.take j, stayB x = false) (hq : stayB xs[j] = true) : findS xs = (j : Int) := by
  have : xs.findIdx? stayB = some j := by
    rw [List.findIdx?_eq_some_iff_getElem]
    refine ⟨hj, hq, fun i hi => ?_⟩
    have hm : xs[i] ∈ xs.take j := by
      rw [List.mem_take_iff_getElem]
      exact ⟨i, by omega, rfl⟩
    simp [h _ hm]
  unfold findS
  rw [this]
set_option maxRecDepth 100000 in
set_option maxHeartbeats 2000000 in
theorem index125 (a : Option Addr) (c : Nat) (xs : List ByteArray) (hfl : xs.length ≤ 1000000000) (w : World) (hf : IsStrs w a c xs) :
    Calls Tryz.prog 125 #[.slice a xs.length c, staysV] w fun e w' => e = .returned (.int .i64 (findS xs)) ∧ Below w.heap.size w w' := by
  obtain ⟨R, hR⟩ : ∃ R, R = findS xs := ⟨_, rfl⟩
  rw [← hR]
  have HR := Lib.hid hR
  have HX := Lib.hid hf
  clear hR hf
  unfold staysV
  go_enter Tryz.func125, Tryz.ntmps125
  go_wp2_with fail
  go_loopw [8] (fun i wr => ∃ j : Nat, j ≤ xs.length ∧ i = .int .i64 (j : Int) ∧ Hid (∀ x ∈ xs.take j, stayB x = false) ∧ Below w.heap.size w wr) (fun i _ => xs.length - (intOf i).toNat)
  case atStart => exact ⟨0, Nat.zero_le _, rfl, (fun f hf => by simp at hf), Below.refl _ _⟩
  case round =>
    obtain ⟨j, hj, rfl, hno, hb⟩ := hrel
    by_cases hlt : j < xs.length
    · obtain h0 | ⟨bk, o, rfl, hbk, hc, hcell⟩ := HX.out.below hb
      · subst h0; simp at hlt
      have c1 := hcell j xs[j] (by simp [hlt])
      obtain ⟨q, hq⟩ : ∃ q, q = stayB xs[j] := ⟨_, rfl⟩
      have HF := Lib.hid (fun W => stays104 xs[j] q hq W)
      have HN : Hid (q = false → ∀ f ∈ xs.take (j + 1), stayB f = false) := fun e f hf => by
        rw [List.take_add_one, List.getElem?_eq_getElem hlt, Option.toList_some, List.mem_append] at hf
        rcases hf with hf | hf
        · exact hno.out f hf
        · rw [List.mem_singleton] at hf; subst hf; rw [← hq, e]
      have HY : Hid (q = true → R = (j : Int)) := fun e => by rw [HR.out]; exact findS_at hlt hno.out (hq ▸ e)
      obtain ⟨x, hxe⟩ : ∃ x, x = xs[j] := ⟨_, rfl⟩
      rw [← hxe] at c1 HF
      clear hcell hq hxe
      have j1 : (j : Int) < xs.length := by omega
      go_wp2_with fail
      refine (HF.out _).mono ?_
      rintro e w2 ⟨rfl, hb2⟩
      have b2 := hb.trans (hb2.mono hb.size)
      cases q
      · have HN2 := Lib.hid (HN.out rfl)
        clear HN HY
        go_wp2_with fail
        go_roundw
        case rel => exact ⟨j + 1, hlt, by go_num, HN2, b2⟩
        case measure => simp [intOf]; omega
      · have HY2 := Lib.hid (HY.out rfl)
        clear HN HY
        go_wp2_with fail
        go_ret
        exact ⟨by rw [HY2.out]; rfl, b2⟩
    · have hn := hno.out
      rw [List.take_of_length_le (by omega)] at hn
      have HN : Hid (R = -1) := by
        have e := HR.out
        rw [findS_no hn] at e
        exact e
      clear hn hno
      go_wp2_with fail
      go_ret
      exact ⟨by rw [HN.out]; rfl, hb⟩
/-- A block of places that may be written. -/
def Open1 (w : World) (g n : Nat) : Prop := g < w.heap.size ∧ ∀ k, k < n → (w.cell? ⟨g, k, none⟩).isSome = true ∧ w.frozen? ⟨g, k, none⟩ = false
def StrAt (w : World) (g k : Nat) (x : ByteArray) : Prop := w.cell? ⟨g, k, none⟩ = some (.string x)
theorem StrAt.below {w w' : World} {g k : Nat} {x : ByteArray} (h : StrAt w g k x) (hb : Below w.heap.size w w') (hg : g < w.heap.size) : StrAt w' g k x := ((bcell hb).1 _ _ hg).trans h
theorem Open1.below {w w' : World} {g n : Nat} (h : Open1 w g n) (hb : Below w.heap.size w w') : Open1 w' g n := by
  obtain ⟨hc, hf⟩ := bcell hb
  exact ⟨Nat.lt_of_lt_of_le h.1 hb.size, fun k hk => by rw [hc _ _ h.1, hf _ _ h.1]; exact h.2 k hk⟩
theorem Open1.set {w : World} {g n : Nat} (h : Open1 w g n) (p : Nat) (v : Value) : Open1 (w.setCell ⟨g, p, none⟩ v) g n := by
  refine ⟨by simpa [World.setCell] using h.1, fun k hk => ?_⟩
  obtain ⟨h1, h2⟩ := h.2 k hk
  refine ⟨?_, by rw [World.frozen?_setCell]; exact h2⟩
  by_cases e : k = p
  · subst e
    obtain ⟨u, hu⟩ := Option.isSome_iff_exists.1 h1
    rw [World.cell?_setCell_same _ _ _ hu]; rfl
  · rw [World.cell?_setCell_other _ _ _ _ (by simp <;> omega)]; exact h1
theorem StrAt.set {w : World} {g k : Nat} {x : ByteArray} (h : StrAt w g k x) (p : Nat) (v : Value) (hp : p ≠ k) : StrAt (w.setCell ⟨g, p, none⟩ v) g k x := by
  unfold StrAt
  rw [World.cell?_setCell_other _ _ _ _ (by simp <;> omega)]; exact h
theorem StrAt.put {w : World} {g n k : Nat} (h : Open1 w g n) (hk : k < n) (x : ByteArray) : StrAt (w.setCell ⟨g, k, none⟩ (.string x)) g k x := by
  obtain ⟨u, hu⟩ := Option.isSome_iff_exists.1 (h.2 k hk).1
  exact World.cell?_setCell_same _ _ _ hu
theorem goes_keep {xs : List ByteArray} {j : Nat} (hj : j < xs.length) (h : stayB xs[j] = false) : goes (xs.take (j + 1)) = goes (xs.take j) ++ [xs[j]] := by
  unfold goes
  rw [List.take_add_one, List.getElem?_eq_getElem hj, Option.toList_some, List.filter_append]
  simp [h]
theorem goes_drop {xs : List ByteArray} {j : Nat} (hj : j < xs.length) (h : stayB xs[j] = true) : goes (xs.take (j + 1)) = goes (xs.take j) := by
  unfold goes
  rw [List.take_add_one, List.getElem?_eq_getElem hj, Option.toList_some, List.filter_append]
  simp [h]
theorem goes_none {xs : List ByteArray} (h : ∀ x ∈ xs, stayB x = false) : goes xs = xs := by
  unfold goes
  rw [List.filter_eq_self]
  intro f hf
  simp [h f hf]
theorem findS_cases (xs : List ByteArray) : (findS xs = -1 ∧ ∀ x ∈ xs, stayB x = false) ∨ ∃ i, ∃ h : i < xs.length, findS xs = (i : Int) ∧ stayB xs[i] = true ∧ ∀ x ∈ xs.take i, stayB x = false := by
  unfold findS
  cases hfi : xs.findIdx? stayB with
  | none => exact .inl ⟨rfl, List.findIdx?_eq_none_iff.1 hfi⟩
  | some i =>
    obtain ⟨h, h1, h2⟩ := List.findIdx?_eq_some_iff_getElem.1 hfi
    refine .inr ⟨i, h, rfl, h1, fun f hf => ?_⟩
    obtain ⟨k, hk, rfl⟩ := List.mem_take_iff_getElem.1 hf
    have := h2 k (by omega)
    simpa using this
theorem run_clear1 (w : World) (ty : TypeId) (b o n c : Nat) (hn : 0 < n) (hc : ∀ j, j < n → (w.cell? ⟨b, o + j, none⟩).isSome = true) (hf : ∀ j, j < n → w.frozen? ⟨b, o + j, none⟩ = false) :
    (Builtin.clear_ #[88] ty #[.slice (some ⟨b, o, none⟩) n c]).run Tryz.prog w = .ok (.tuple #[]) (w.setCells b o (Builtin.zeroCells #[.string ⟨#[]⟩] n).toList) := by
  have hv : ∀ w, (zeroValue 9).run Tryz.prog w = .ok (.string ⟨#[]⟩) w := fun w => by kernel_rfl
  have hz : (Builtin.zeroCells #[Value.string ⟨#[]⟩] n).toList.length = n := by simp [Builtin.zeroCells]
  have hone : ∀ v ∈ (Builtin.zeroCells #[Value.string ⟨#[]⟩] n).toList, v.oneCell' = true := by
    intro v hv'
    simp [Builtin.zeroCells] at hv'
    obtain ⟨i, _, rfl⟩ := hv'
    rw [Nat.mod_one]
    rfl
  have hst := run_storeCells_cells (P := Tryz.prog) b o (Builtin.zeroCells #[Value.string ⟨#[]⟩] n).toList 0 w (by rw [hz]; simpa using hc) (by rw [hz]; simpa using hf) hone
  simp only [Nat.add_zero] at hst
  obtain ⟨m, rfl⟩ : ∃ m, n = m + 1 := ⟨n - 1, by omega⟩
  simp [Builtin.clear_, run_underlying Tryz.underlying88, hv, Value.cells, hst]
end Go.Proofs.YtbbphklhnngjmaaGreatDoor

