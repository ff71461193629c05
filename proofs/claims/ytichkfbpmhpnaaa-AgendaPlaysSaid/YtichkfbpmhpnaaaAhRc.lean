/- The reference's agenda: Set (written by genagrc.py). -/
import Derived.Test.YtichkfbpmhpnaaaAhRb
namespace Go.Proofs.Ytichkfbpmhpnaaa
open Go.RowKit Go.Maps

/-- One more item, behind which the new one may have its place. -/
def stepI (x : RI) (o : List RI × Bool) (e : RI) : List RI × Bool := if !o.2 && decide (x.2 < e.2) then (o.1 ++ [x] ++ [e], true) else (o.1 ++ [e], o.2)
def walkI (x : RI) (l : List RI) : List RI × Bool := l.foldl (stepI x) ([], false)
theorem walkI_step {x : RI} {l : List RI} {j : Nat} (hj : j < l.length) : walkI x (l.take (j + 1)) = stepI x (walkI x (l.take j)) l[j] := by
  rw [List.take_add_one, List.getElem?_eq_getElem hj, Option.toList_some]
  unfold walkI
  rw [List.foldl_append]
  rfl
/-- What Set makes of a list. -/
def setR (l : List RI) (k : ByteArray) (a : Int) : List RI := if (walkI (k, clampA a) (dropR l k)).2 = true then (walkI (k, clampA a) (dropR l k)).1 else (walkI (k, clampA a) (dropR l k)).1 ++ [(k, clampA a)]
set_option maxHeartbeats 4000000 in
set_option maxRecDepth 100000 in
theorem rset20 (a : Option Addr) (c : Nat) (l : List RI) (hl : l.length ≤ 1100) (k : ByteArray) (A : Int) (w : World) (h : IsRis w a c l) :
    Calls Try.prog 38 #[.slice a l.length c, .string k, .int .i64 A] w fun e w' => ∃ v, e = .returned v ∧ w'.ownsRow w.heap.size 94 2 v (setR l k A).length (cellsR (setR l k A)) ∧ Below w.heap.size w w' := by
  obtain ⟨i0, hi, hz0, hz1, hz2⟩ := info_parts infoRi
  have HDR := Lib.hid (rdrop20 a c l hl k w h)
  have hrl : (dropR l k).length ≤ 1100 := Nat.le_trans (dropR_le l k) hl
  have e1 : (if (1099511627776 : Int) < A then (1099511627776 : Int) else A) = min A 1099511627776 := by split <;> omega
  have e2 : (if (0 : Int) < min A 1099511627776 then min A 1099511627776 else 0) = clampA A := by unfold clampA; split <;> split <;> (try split) <;> omega
  obtain ⟨B, hB⟩ : ∃ B, min A 1099511627776 = B := ⟨_, rfl⟩
  rw [hB] at e1 e2
  have HSET : Hid (setR l k A = if (walkI (k, clampA A) (dropR l k)).2 = true then (walkI (k, clampA A) (dropR l k)).1 else (walkI (k, clampA A) (dropR l k)).1 ++ [(k, clampA A)]) := rfl
  generalize setR l k A = OUT at HSET ⊢
  obtain ⟨n, hn⟩ : ∃ n, clampA A = n := ⟨_, rfl⟩
  rw [hn] at e2 HSET
  generalize hr : dropR l k = r at HDR hrl HSET
  obtain ⟨x, hx⟩ : ∃ x : RI, x = (k, n) := ⟨_, rfl⟩
  rw [← hx] at HSET
  have HX := Lib.hid hx
  clear h hB hn hr hx
  go_enter Try.func38, Try.ntmps38
  go_wp2_with fail
  refine HDR.out.mono ?_
  rintro e w2 ⟨v, rfl, hown, hbel⟩
  obtain ⟨a2, c2, rfl, hris, _⟩ := isRis_own hown
  have HI := Lib.hid hris
  have HBE := Lib.hid hbel
  have HO1 : Hid ((w2.alloc (.cells #[] 94)).ownsRow w2.heap.size 94 2 (.slice (some ⟨w2.heap.size, 0, none⟩) 0 0) 0 []) := World.ownsRow_lit w2 #[] 0 (Nat.le_refl _) (by decide) (by simp)
  have HB1 : Hid (Below w2.heap.size w2 (w2.alloc (.cells #[] 94))) := below_alloc w2 _
  clear hown hbel hris HDR
  go_wp2_with fail
  go_loopw [10, 11, 26] (fun u d i wr => ∃ (j m : Nat), j ≤ r.length ∧ m ≤ j + 1 ∧ ((walkI x (r.take j)).2 = false → m ≤ j) ∧ i = .int .i64 (j : Int) ∧ d = .bool (walkI x (r.take j)).2 ∧ (walkI x (r.take j)).1.length = m ∧ Hid (wr.ownsRow w2.heap.size 94 2 u m (cellsR (walkI x (r.take j)).1)) ∧ Hid (Below w2.heap.size w2 wr)) (fun _ _ i _ => r.length - (intOf i).toNat)
  case atStart => exact ⟨0, 0, Nat.zero_le _, Nat.zero_le _, fun _ => Nat.zero_le _, rfl, rfl, rfl, HO1, HB1⟩
  case round =>
    obtain ⟨j, m, hj, hmj, hmf, rfl, rfl, hm, ho, hb⟩ := hrel
    have HM := Lib.hid hm
    clear hm
    obtain ⟨ua, uc, hu⟩ := own_slice ho.out
    subst hu
    by_cases hjl : j < r.length
    · have j1 : (j : Int) < r.length := by omega
      obtain h0 | ⟨bk, oo, rfl, hbk, hcc, hcell⟩ := (HI.out.below hb.out).ris
      · subst h0; simp at hjl
      obtain ⟨x0, x1⟩ := hcell j r[j] (by simp [hjl])
      have hstp := walkI_step (x := x) hjl
      obtain ⟨E, hE⟩ : ∃ E, E = r[j] := ⟨_, rfl⟩
      rw [← hE] at x0 x1 hstp
      obtain ⟨n1, a1⟩ := E
      simp only at x0 x1 hstp
      clear hcell hE hcc
      cases hf : (walkI x (r.take j)).2 with
      | true =>
        clear hmf
        have hst2 : walkI x (r.take (j + 1)) = ((walkI x (r.take j)).1 ++ [(n1, a1)], true) := by rw [hstp]; unfold stepI; rw [hf]; rfl
        have HST := Lib.hid hst2
        clear hst2 hf
        have HSA := Lib.hid ((ho.out.alloc (.cells #[.string n1, .int .i64 a1] 94)).alloc (.cells #[.string n1, .int .i64 a1] 94))
        have hba := hb.out.alloc hb.out.size (.cells #[.string n1, .int .i64 a1] 94)
        have HBA := Lib.hid (hba.alloc hba.size (.cells #[.string n1, .int .i64 a1] 94))
        have hca := ri_new (wr.alloc (.cells #[.string n1, .int .i64 a1] 94)) (n1, a1)
        rw [World.size_alloc] at hca
        have HCA9 := Lib.hid hca
        have HON9 := Lib.hid (ri_one (n1, a1))
        clear hca hba ho hb hstp
        go_wp2_with (at_builtin; refine wpList_append_lies _ rfl _ _ 26 rfl w2.heap.size 94 i0 (.agg #[.string ⟨#[]⟩, .int .i64 0]) 2 24 Try.underlying26 hi hz0 hz1 hz2 rfl (by decide) _ _ _ rfl HSA.out ⟨wr.heap.size + 1, 0, none⟩ 1 1 (riL (n1, a1)) rfl rfl (HCA9.out) (HON9.out) (by decide) (by unfold maxLen; omega) (by omega) HBA.out.size _ rfl ?_; intro g9 k9 w19 hown' hgrow hv9 hlt9; have HO9 := Lib.hid hown'; have HG9 : Hid (((wr.alloc (.cells #[.string n1, .int .i64 a1] 94)).alloc (.cells #[.string n1, .int .i64 a1] 94)).grownBy w19 (Value.ownBlock (.slice ua m uc))) := hgrow; clear hown' hgrow hv9 hlt9)
        go_roundw
        case rel =>
          refine ⟨j + 1, m + 1, hjl, by omega, (fun e => by first | omega | (rw [HST.out] at e; cases e)), by go_num, by rw [HST.out], by rw [HST.out]; simp only [List.length_append, HM.out]; rfl, ?_, ?_⟩
          · have h2 := HO9.out
            rw [HST.out, cellsR_append]
            exact h2
          · exact HBA.out.grown HG9.out HBA.out.size (fun k hk => (HSA.out.lt k hk).1)
        case measure => simp [intOf]; omega
      | false =>
        have hmj2 := hmf hf
        clear hmf
        by_cases hna : n < a1
        · have hd : decide (n < a1) = true := decide_eq_true hna
          have hst2 : walkI x (r.take (j + 1)) = ((walkI x (r.take j)).1 ++ [(k, n)] ++ [(n1, a1)], true) := by rw [hstp]; unfold stepI; rw [hf, HX.out]; simp only [hd]; rfl
          have HST := Lib.hid hst2
          clear hst2 hf hna
          have HSA := Lib.hid ((ho.out.alloc (.cells #[.string n1, .int .i64 a1] 94)).alloc (.cells #[.string k, .int .i64 n] 94))
          have hba := hb.out.alloc hb.out.size (.cells #[.string n1, .int .i64 a1] 94)
          have HBA := Lib.hid (hba.alloc hba.size (.cells #[.string k, .int .i64 n] 94))
          have hca := ri_new (wr.alloc (.cells #[.string n1, .int .i64 a1] 94)) (k, n)
          rw [World.size_alloc] at hca
          have HCA9 := Lib.hid hca
          have HON9 := Lib.hid (ri_one (k, n))
          have HON8 := Lib.hid (ri_one (n1, a1))
          have HRE := Lib.hid ((Row.new wr 94 #[.string n1, .int .i64 a1]).alloc (.cells #[.string k, .int .i64 n] 94))
          have HLT : Hid (∀ k, (Value.slice ua m uc).ownBlock = some k → k < wr.heap.size) := fun k hk => (ho.out.lt k hk).2
          clear hca hba ho hb hstp
          go_wp2_with (first | (at_builtin; refine wpList_append_lies _ rfl _ _ 26 rfl w2.heap.size 94 i0 (.agg #[.string ⟨#[]⟩, .int .i64 0]) 2 24 Try.underlying26 hi hz0 hz1 hz2 rfl (by decide) _ _ _ rfl HSA.out ⟨wr.heap.size + 1, 0, none⟩ 1 1 (riL (k, n)) rfl rfl (HCA9.out) (HON9.out) (by decide) (by unfold maxLen; omega) (by omega) HBA.out.size _ rfl ?_; intro g9 k9 w19 hown' hgrow hv9 hlt9; have HO9 := Lib.hid hown'; have HG9 : Hid (((wr.alloc (.cells #[.string n1, .int .i64 a1] 94)).alloc (.cells #[.string k, .int .i64 n] 94)).grownBy w19 (Value.ownBlock (.slice ua m uc))) := hgrow; clear hown' hgrow hv9 hlt9; have HR9 := Lib.hid (HRE.out.grown HG9.out (fun e => by have := HLT.out _ e; omega)); have y0 : w19.cell? ⟨wr.heap.size, 0, none⟩ = some (.string n1) := HR9.out.cell 0; have y1 : w19.cell? ⟨wr.heap.size, 1, none⟩ = some (.int .i64 a1) := HR9.out.cell 1; have HB9 := Lib.hid (HBA.out.grown HG9.out HBA.out.size (fun k hk => (HSA.out.lt k hk).1)); have HSB := Lib.hid (HO9.out.alloc (.cells #[.string n1, .int .i64 a1] 94)); have HBB := Lib.hid (HB9.out.alloc HB9.out.size (.cells #[.string n1, .int .i64 a1] 94)); have HCA8 := Lib.hid (ri_new w19 (n1, a1))) | (at_builtin; refine wpList_append_lies _ rfl _ _ 26 rfl w2.heap.size 94 i0 (.agg #[.string ⟨#[]⟩, .int .i64 0]) 2 24 Try.underlying26 hi hz0 hz1 hz2 rfl (by decide) _ _ _ rfl HSB.out ⟨w19.heap.size, 0, none⟩ 1 1 (riL (n1, a1)) rfl rfl (HCA8.out) (HON8.out) (by decide) (by unfold maxLen; omega) (by omega) HBB.out.size _ rfl ?_; intro g8 k8 w18 hown' hgrow hv9 hlt9; have HO8 := Lib.hid hown'; have HG8 : Hid ((w19.alloc (.cells #[.string n1, .int .i64 a1] 94)).grownBy w18 (Value.ownBlock (.slice (some ⟨g9, 0, none⟩) (m + 1) k9))) := hgrow; clear hown' hgrow hv9 hlt9))
          go_roundw
          case rel =>
            refine ⟨j + 1, m + 1 + 1, hjl, by omega, (fun e => by rw [HST.out] at e; cases e), by go_num, by rw [HST.out], by rw [HST.out]; simp only [List.length_append, HM.out]; rfl, ?_, ?_⟩
            · have h2 := HO8.out
              rw [HST.out, cellsR_append, cellsR_append]
              exact h2
            · exact HBB.out.grown HG8.out HBB.out.size (fun k hk => (HSB.out.lt k hk).1)
          case measure => simp [intOf]; omega
        · have hd : decide (n < a1) = false := decide_eq_false hna
          have hst2 : walkI x (r.take (j + 1)) = ((walkI x (r.take j)).1 ++ [(n1, a1)], false) := by rw [hstp]; unfold stepI; rw [hf, HX.out]; simp only [hd]; rfl
          have HST := Lib.hid hst2
          clear hst2 hf hna
          have HSA := Lib.hid ((ho.out.alloc (.cells #[.string n1, .int .i64 a1] 94)).alloc (.cells #[.string n1, .int .i64 a1] 94))
          have hba := hb.out.alloc hb.out.size (.cells #[.string n1, .int .i64 a1] 94)
          have HBA := Lib.hid (hba.alloc hba.size (.cells #[.string n1, .int .i64 a1] 94))
          have hca := ri_new (wr.alloc (.cells #[.string n1, .int .i64 a1] 94)) (n1, a1)
          rw [World.size_alloc] at hca
          have HCA9 := Lib.hid hca
          have HON9 := Lib.hid (ri_one (n1, a1))
          clear hca hba ho hb hstp
          go_wp2_with (at_builtin; refine wpList_append_lies _ rfl _ _ 26 rfl w2.heap.size 94 i0 (.agg #[.string ⟨#[]⟩, .int .i64 0]) 2 24 Try.underlying26 hi hz0 hz1 hz2 rfl (by decide) _ _ _ rfl HSA.out ⟨wr.heap.size + 1, 0, none⟩ 1 1 (riL (n1, a1)) rfl rfl (HCA9.out) (HON9.out) (by decide) (by unfold maxLen; omega) (by omega) HBA.out.size _ rfl ?_; intro g9 k9 w19 hown' hgrow hv9 hlt9; have HO9 := Lib.hid hown'; have HG9 : Hid (((wr.alloc (.cells #[.string n1, .int .i64 a1] 94)).alloc (.cells #[.string n1, .int .i64 a1] 94)).grownBy w19 (Value.ownBlock (.slice ua m uc))) := hgrow; clear hown' hgrow hv9 hlt9)
          go_roundw
          case rel =>
            refine ⟨j + 1, m + 1, hjl, by omega, (fun e => by first | omega | (rw [HST.out] at e; cases e)), by go_num, by rw [HST.out], by rw [HST.out]; simp only [List.length_append, HM.out]; rfl, ?_, ?_⟩
            · have h2 := HO9.out
              rw [HST.out, cellsR_append]
              exact h2
            · exact HBA.out.grown HG9.out HBA.out.size (fun k hk => (HSA.out.lt k hk).1)
          case measure => simp [intOf]; omega
    · obtain rfl : j = r.length := by omega
      clear hmf
      have hO := ho.out
      have hm := HM.out
      rw [List.take_of_length_le (Nat.le_refl _)] at hO hm ⊢
      cases hf : (walkI x r).2 with
      | true =>
        have hs := HSET.out
        rw [if_pos hf] at hs
        subst hs
        have HO := Lib.hid (own_baseA hO HBE.out.size)
        have HMM := Lib.hid hm
        clear hO hm ho HM hf HSET
        go_wp2_with fail
        go_ret
        exact ⟨_, rfl, by rw [HMM.out]; exact HO.out, HBE.out.trans (hb.out.mono HBE.out.size)⟩
      | false =>
        have hs := HSET.out
        rw [if_neg (by rw [hf]; simp), HX.out] at hs
        have HOUT := Lib.hid hs
        have HMM := Lib.hid hm
        have HSA := Lib.hid (hO.alloc (.cells #[.string k, .int .i64 n] 94))
        have HBA := Lib.hid (hb.out.alloc hb.out.size (.cells #[.string k, .int .i64 n] 94))
        have HCA9 := Lib.hid (ri_new wr (k, n))
        have HON9 := Lib.hid (ri_one (k, n))
        clear hO hm ho HM hf HSET hs
        go_wp2_with (at_builtin; refine wpList_append_lies _ rfl _ _ 26 rfl w2.heap.size 94 i0 (.agg #[.string ⟨#[]⟩, .int .i64 0]) 2 24 Try.underlying26 hi hz0 hz1 hz2 rfl (by decide) _ _ _ rfl HSA.out ⟨wr.heap.size, 0, none⟩ 1 1 (riL (k, n)) rfl rfl (HCA9.out) (HON9.out) (by decide) (by unfold maxLen; omega) (by omega) HBA.out.size _ rfl ?_; intro g9 k9 w19 hown' hgrow hv9 hlt9; have HO9 := Lib.hid hown'; have HG9 : Hid ((wr.alloc (.cells #[.string k, .int .i64 n] 94)).grownBy w19 (Value.ownBlock (.slice ua m uc))) := hgrow; clear hown' hgrow hv9 hlt9)
        go_ret
        have hb9 := HBA.out.grown HG9.out HBA.out.size (fun k hk => (HSA.out.lt k hk).1)
        refine ⟨_, rfl, ?_, HBE.out.trans (hb9.mono HBE.out.size)⟩
        have h2 := HO9.out
        rw [HOUT.out, List.length_append, cellsR_append]
        rw [HX.out] at HMM
        rw [HMM.out]
        rw [HX.out] at h2
        exact own_baseA h2 HBE.out.size
end Go.Proofs.Ytichkfbpmhpnaaa
