/- The walk of the statement RequestHeads. -/
import Derived.Deep.CutBlock
import Derived.Deep.DeepCutAuto
import Derived.Deep.LoopGhost
import Derived.Test.YtmcbaheaocfdnaaGreatDoorQ05
import Derived.Test.YtmcbaheaocfdnaaGreatDoorQ08
import Derived.Test.YtmcbaheaocfdnaaGreatDoorQ09
import Derived.Test.YtmcbaheaocfdnaaGreatDoorQ11
import Derived.Test.YtmcbaheaocfdnaaGreatDoorQ12
import Derived.Test.YtmcbaheaocfdnaaGreatDoorQ13
namespace Go.Proofs.YtmcbaheaocfdnaaGreatDoor
open Go.RowKit

theorem own_isFldsE {w : World} {base : Nat} {e : TypeId} {v : Value} {fs : List Fld} (h : w.ownsRow base e 2 v fs.length (cellsF fs)) : ∃ a c, v = .slice a fs.length c ∧ IsFlds w a c fs := by
  obtain ⟨_, ⟨rfl, h0⟩ | ⟨g, cap, cur, rfl, _, hg, hcap, _, hcs, htk⟩⟩ := h
  · obtain rfl : fs = [] := List.eq_nil_of_length_eq_zero h0
    exact ⟨none, 0, rfl, .inl rfl⟩
  · refine ⟨some ⟨g, 0, none⟩, cap, rfl, .inr ⟨g, 0, rfl, (Array.getElem?_eq_some_iff.1 hg).1, hcap, fun j f hf => ?_⟩⟩
    obtain ⟨g1, g2⟩ := cellsF_at fs j f hf
    have hj := (List.getElem?_eq_some_iff.1 hf).1
    rw [← htk, List.getElem?_take, if_pos (by omega)] at g1 g2
    rw [Nat.zero_add]
    simp only [Array.getElem?_toList] at g1 g2
    exact ⟨by simp [World.cell?, hg, g1], by simp [World.cell?, hg, g2]⟩
theorem wt_run (M : HdL) : ∀ (l : List UInt8) (σ : HdS), (hRun M σ l).wt ≤ σ.wt + 4 * l.length
  | [], σ => Nat.le_add_right _ _
  | c :: l, σ => by
    have h1 := wt_run M l (M.step anyFirst σ c)
    have h2 := wt_step M σ c
    have e : hRun M σ (c :: l) = hRun M (M.step anyFirst σ c) l := mRun_cons ..
    rw [e, List.length_cons]
    omega
theorem flds_wt (σ : HdS) : σ.fldsOf.length ≤ σ.wt := by
  cases σ with
  | done f fs => exact Nat.le_refl _
  | err e => exact Nat.le_refl _
  | line fo fs sz cur cr => cases fo with
    | none => exact Nat.zero_le _
    | some f => exact Nat.le_add_left _ _
/-- What the law reads of the reference's answer: of all bytes so far, and what is left of the last ones. -/
theorem hd_read (M : HdL) (t p : List UInt8) : ∃ n : Nat, hdTook M anyFirst (t ++ p) = ⟨(hRun M (hRun M hd0 t) p).firstOf, (hRun M (hRun M hd0 t) p).begun, (hRun M (hRun M hd0 t) p).fldsOf, n, (hRun M (hRun M hd0 t) p).fin, (hRun M (hRun M hd0 t) p).errOf⟩ ∧ n ≤ (t ++ p).length ∧
    ((hRun M hd0 t).fin = true → (hRun M (hRun M hd0 t) p).errOf = 0 ∧ (hRun M (hRun M hd0 t) p).fin = true ∧ hLeft M (hRun M hd0 t) p = p) ∧
    ((hRun M hd0 t).fin = false → (hRun M (hRun M hd0 t) p).fin = true → (hRun M (hRun M hd0 t) p).errOf = 0 ∧ (t ++ p).drop n = hLeft M (hRun M hd0 t) p) ∧
    ((hRun M (hRun M hd0 t) p).fin = false → hLeft M (hRun M hd0 t) p = []) := by
  have e0 : hRun M hd0 (t ++ p) = hRun M (hRun M hd0 t) p := mRun_app ..
  obtain ⟨σ, hσ⟩ : ∃ σ, σ = hRun M hd0 (t ++ p) := ⟨_, rfl⟩
  refine ⟨(hdTook M anyFirst (t ++ p)).n, ?_, ?_, ?_, ?_, ?_⟩
  · rw [← e0]
    unfold hdTook
    show HdS.took _ _ (hRun M hd0 (t ++ p)) = HdT.mk _ _ _ (HdS.took _ _ (hRun M hd0 (t ++ p))).n _ _
    rw [← hσ]
    cases σ with
    | done f fs => rfl
    | err e => rfl
    | line fo fs sz cur cr => cases fo <;> rfl
  · unfold hdTook
    show (HdS.took _ _ (hRun M hd0 (t ++ p))).n ≤ _
    rw [← hσ]
    cases σ with
    | done f fs => exact Nat.sub_le _ _
    | err e => exact Nat.zero_le _
    | line fo fs sz cur cr => cases fo <;> exact Nat.le_refl _
  · intro h
    have e1 : hRun M (hRun M hd0 t) p = hRun M hd0 t := mRun_fin _ _ (hd_fin M anyFirst) _ h p
    have e2 : hLeft M (hRun M hd0 t) p = p := mLeft_fin _ _ _ p h
    rw [e1]
    refine ⟨?_, h, e2⟩
    revert h
    cases hRun M hd0 t <;> intro h <;> first | rfl | cases h
  · intro h1 h2
    refine ⟨?_, ?_⟩
    · revert h2
      cases hRun M (hRun M hd0 t) p <;> intro h <;> first | rfl | cases h
    · have hw : (hdTook M anyFirst (t ++ p)).whole = true := by
        unfold hdTook
        show (HdS.took _ _ (hRun M hd0 (t ++ p))).whole = true
        rw [e0]
        revert h2
        cases hRun M (hRun M hd0 t) p <;> intro h <;> first | rfl | cases h
      rw [hd_left M anyFirst _ hw]
      exact mLeft_app _ _ (hd_fin M anyFirst) _ _ _ h1
  · intro h
    exact mLeft_undone _ _ (hd_fin M anyFirst) p _ h
set_option maxRecDepth 100000 in
set_option maxHeartbeats 8000000 in
theorem lawRequestHeads (s0 : ByteArray) (a : Option Addr) (c : Nat) (xs : List Int) (hlen : xs.length ≤ 9223372036854775807) (l h cc b : Int) (hh0 : h ≤ 9223372036854775807) (w : World) (hw : MaxL w) (hx : IsInts w a c xs) :
    Calls Tryz.prog 3 #[.string s0, .slice a xs.length c, .agg #[.int .i64 l, .int .i64 h, .int .i64 cc, .int .i64 b]] w fun e w' => e = .returned (.bool true) ∧ Below w.heap.size w w' := by
  have HW := Lib.hid hw
  have HX := Lib.hid hx
  have L0 := Lib.hid (below_alloc w (.cells #[.int .i64 l, .int .i64 h, .int .i64 cc, .int .i64 b] 24))
  have R0 := Lib.hid (Row.new w 24 #[.int .i64 l, .int .i64 h, .int .i64 cc, .int .i64 b])
  clear hw hx
  go_enter Tryz.func3, Tryz.ntmps3
  go_wp2_with fail
  with_reducible refine (rqawake5 _ (HW.out.below L0.out)).mono ?_
  rintro e w1 ⟨rfl, hb1⟩
  have R1 := R0.out.below hb1
  have B1 := L0.out.trans (hb1.mono L0.out.size)
  have X1 := Lib.hid (HX.out.below B1)
  clear hb1 HX L0 R0
  go_wp2_with fail
  refine (cut11 s0 400 w1).mono ?_
  rintro e w' ⟨rfl, rfl⟩
  obtain ⟨s, hs⟩ : ∃ s, s = cutS s0 400 := ⟨_, rfl⟩
  have hsz : s.size ≤ 400 := by rw [hs]; exact cutS_size _ _
  rw [← hs]
  clear hs
  have k0 : w1.cell? ⟨w.heap.size, 0, none⟩ = some (.int .i64 l) := R1.cell 0
  have k1 : w1.cell? ⟨w.heap.size, 1, none⟩ = some (.int .i64 h) := R1.cell 1
  have k2 : w1.cell? ⟨w.heap.size, 2, none⟩ = some (.int .i64 cc) := R1.cell 2
  have k3 : w1.cell? ⟨w.heap.size, 3, none⟩ = some (.int .i64 b) := R1.cell 3
  have HR1 := Lib.hid R1
  have hbl1 : w.heap.size < w1.heap.size := R1.lt
  clear R1
  go_wp2_with fail
  with_reducible refine (newhead7x l h cc b w1).mono ?_
  rintro e w2 ⟨g, rfl, hg, hr2, hb2⟩
  have D2 : Hid (HeS (fun j => j = g) 66 [] w2 g ⟨l, h, cc⟩ b hd0) := by
    rw [Int.max_comm l, Int.max_comm h, Int.max_comm cc] at hr2
    exact ⟨_, _, _, _, _, _, _, _, _, _, _, .line0 [] false, .slice none 0 0, .slice none 0 0, hr2, by decide, by decide, rfl, nil_flds _, nil_byt _, (fun j h => by cases h), (fun j h => by cases h)⟩
  have hg1 : w.heap.size ≤ g := Nat.le_trans B1.size hg
  have hgL : w.heap.size < g := by omega
  have b2 := B1.trans (hb2.mono B1.size)
  have X2 := Lib.hid (X1.out.below hb2)
  have HR2 := Lib.hid (HR1.out.below hb2)
  have hg2 := hr2.lt
  clear hb2 hr2 B1 X1 HR1 k0 k1 k2 k3 hg
  go_wp2_with fail
  with_reducible refine (parts9 s (by omega) a c xs hlen w2 X2.out).mono ?_
  rintro e w3 ⟨a3, c3, ps, rfl, hx3, hps, hpl, hbl, hb3⟩
  have b3 := b2.trans (hb3.mono b2.size)
  have h3s := hb3.size
  have D3 : Hid (HeS (fun j => j = g ∨ w3.heap.size ≤ j) 66 [] w3 g ⟨l, h, cc⟩ b hd0) := (D2.out.below hb3).more (fun j _ h => .inl h)
  obtain ⟨p0, hp0⟩ : ∃ p0, p0 = w3.heap.size := ⟨_, rfl⟩
  rw [← hp0] at D3
  have hgp : g < p0 := by rw [hp0]; omega
  have HNG : Hid (∀ ad, a3 = some ad → ¬ (ad.block = g ∨ p0 ≤ ad.block)) := by
    intro ad had
    have := hbl ad had
    omega
  have HX3 := Lib.hid hx3
  have HPS := Lib.hid hps
  have HFL : Hid (Floor (fun j => j = g ∨ p0 ≤ j) w.heap.size) := by
    rintro k (rfl | hk)
    · exact hg1
    · have := b3.size; omega
  have hp3 : p0 ≤ w3.heap.size := by omega
  have HB3 := Lib.hid b3
  have hB0 : w.heap.size ≤ p0 := by omega
  have HR3 := Lib.hid (HR2.out.below hb3)
  have HNL : Hid (¬ (w.heap.size = g ∨ p0 ≤ w.heap.size)) := by show ¬ _; omega
  clear hx3 hps hbl hb3 h3s D2 X2 b2 hg2 HR2 b3
  go_wp2_with fail
  go_loopg [8, 28] ps.length (fun gg tv iv wr => ∃ (j : Nat) (t : ByteArray), gg = ps.length - j ∧ j ≤ ps.length ∧ tv = .string t ∧ iv = .int .i64 (j : Int) ∧ Hid (t.data.toList = (bytesOf (ps.take j)).flatten) ∧ Hid (HeS (fun j => j = g ∨ p0 ≤ j) 66 [] wr g ⟨l, h, cc⟩ b (hRun ⟨l, h, cc⟩ hd0 t.data.toList)) ∧ Hid (Keep (fun j => j = g ∨ p0 ≤ j) w3 wr))
  case atStart => exact ⟨0, ⟨#[]⟩, rfl, by omega, rfl, rfl, rfl, D3.out, Keep.refl _ _⟩
  case round =>
    clear D3
    obtain ⟨j, t, rfl, hj, rfl, rfl, ht, hd, hk⟩ := hrel
    have hbel := HB3.out.trans (hk.out.bel HFL.out HB3.out.size)
    by_cases hlt : j < ps.length
    · have hx' := isStrs_keep HX3.out hk.out HNG.out
      obtain h0 | ⟨bk, o, rfl, hbk, hc, hcell⟩ := hx'
      · subst h0; simp at hlt
      have cj := hcell j ps[j] (by simp [hlt])
      have hft := bytesOf_take hlt
      have hfl := bytesOf_take_le ps (j + 1)
      obtain ⟨p, hp⟩ : ∃ p, p = ps[j] := ⟨_, rfl⟩
      rw [← hp] at cj hft
      rw [← ht.out] at hft
      rw [hft, HPS.out, List.length_append, ← Lib.size_eq, ← Lib.size_eq, ← Lib.size_eq] at hfl
      have htz : t.size ≤ 400 := by omega
      have hpz : p.size ≤ 400 := by omega
      have htpz0 : t.size + p.size ≤ 400 := by omega
      have htp : (t ++ p).data.toList = t.data.toList ++ p.data.toList := by simp
      have htpz : (t ++ p).size = t.size + p.size := by rw [Lib.size_eq, htp, List.length_append, Lib.size_eq, Lib.size_eq]
      obtain ⟨n1, hT, hn1, hL1, hL2, hL3⟩ := hd_read ⟨l, h, cc⟩ t.data.toList p.data.toList
      have hwt := wt_run ⟨l, h, cc⟩ t.data.toList hd0
      have hwt2 := wt_run ⟨l, h, cc⟩ p.data.toList (hRun ⟨l, h, cc⟩ hd0 t.data.toList)
      obtain ⟨σ, hσ⟩ : ∃ σ, σ = hRun ⟨l, h, cc⟩ hd0 t.data.toList := ⟨_, rfl⟩
      have hdd := hd.out
      rw [← hσ] at hT hL1 hL2 hL3 hdd hwt hwt2
      rw [← Lib.size_eq] at hwt hwt2
      have hw0 : hd0.wt = 0 := rfl
      rw [hw0] at hwt
      obtain ⟨q0, hq0⟩ : ∃ q0, σ.fin = q0 := ⟨_, rfl⟩
      have HDN := Lib.hid (hdoneS _ 66 [] g ⟨l, h, cc⟩ b σ wr hdd)
      rw [hq0] at HDN
      obtain ⟨τ, hτ⟩ : ∃ τ, τ = hRun ⟨l, h, cc⟩ σ p.data.toList := ⟨_, rfl⟩
      rw [← hτ] at hT hL1 hL2 hL3 hwt2
      have hfsz := flds_wt τ
      obtain ⟨q1, hq1⟩ : ∃ q1, τ.fin = q1 := ⟨_, rfl⟩
      obtain ⟨qB, hqB⟩ : ∃ qB, τ.begun = qB := ⟨_, rfl⟩
      obtain ⟨E1, hE1⟩ : ∃ E1, τ.errOf = E1 := ⟨_, rfl⟩
      obtain ⟨F1, hF1⟩ : ∃ F1, bs τ.firstOf = F1 := ⟨_, rfl⟩
      obtain ⟨FS, hFS⟩ : ∃ FS, τ.fldsOf = FS := ⟨_, rfl⟩
      obtain ⟨X, hX⟩ : ∃ X, bs (if E1 = 0 then hLeft ⟨l, h, cc⟩ σ p.data.toList else []) = X := ⟨_, rfl⟩
      rw [hq0] at hL1 hL2
      rw [hq1, hE1] at hL1 hL2
      rw [hq1] at hL3
      rw [hqB, hE1, hq1, hFS] at hT
      rw [hFS] at hfsz
      have HBt := Lib.hid (fun W => rhead11 (t ++ p) (by omega) l h cc b hh0 _ rfl W)
      rw [htp, hT] at HBt
      unfold RhPost at HBt
      simp only at HBt
      rw [hF1] at HBt
      have hcase : q0 = true → q1 = true := fun h => (hL1 h).2.1
      have hx1 : q0 = true → X = p := fun h => by rw [← hX, if_pos (hL1 h).1, (hL1 h).2.2, bs_of]
      have hx2 : q0 = false → q1 = true → (t ++ p).extract n1 (t.size + p.size) = X := fun h h2 => by
        rw [← htpz, ← hX, if_pos (hL2 h h2).1, ← (hL2 h h2).2, ← bs_of ((t ++ p).extract n1 (t ++ p).size), extractL, htp, List.take_of_length_le (by rw [List.length_drop, List.length_append, ← Lib.size_eq, ← Lib.size_eq]; omega)]
      have hx3 : q1 = false → X = ⟨#[]⟩ := fun h => by rw [← hX, hL3 h]; simp; rfl
      have hn1z : n1 ≤ t.size + p.size := by rw [List.length_append, ← Lib.size_eq, ← Lib.size_eq] at hn1; exact hn1
      have HFT := Lib.hid hft
      have HS := Lib.hid hσ
      have HTT := Lib.hid hτ
      have HDD := Lib.hid hdd
      have HQ1 := Lib.hid hq1
      have HQB := Lib.hid hqB
      have HE1 := Lib.hid hE1
      have HF1 := Lib.hid hF1
      have HFS := Lib.hid hFS
      have HXX := Lib.hid hX
      have HTP := Lib.hid htp
      have HX1 := Lib.hid hx1
      have HX2 := Lib.hid hx2
      have HX3' := Lib.hid hx3
      have HCS := Lib.hid hcase
      have hwt3 : σ.wt + 4 * p.size ≤ 1000000000 := by omega
      have hfsz2 : FS.length ≤ 1000000 := by omega
      clear hcell hft hfl hp htp hT hn1 hL1 hL2 hL3 hdd hσ hq0 hτ hq1 hqB hE1 hF1 hFS hX hcase hx1 hx2 hx3 hwt hwt2 hfsz hw0
      have j1 : (j : Int) < ps.length := by omega
      have hb0s : w.heap.size ≤ wr.heap.size := hbel.size
      have HBL := Lib.hid hbel
      have HRL := Lib.hid (HR3.out.keep hk.out HNL.out)
      clear hbel hbk
      go_wp2_with fail
      with_reducible refine HDN.out.mono ?_
      rintro e w' ⟨rfl, rfl⟩
      have HF := Lib.hid (hfeed10 (fun j => j = g ∨ p0 ≤ j) 66 [] g ⟨l, h, cc⟩ b σ p.data.toList (by rw [← Lib.size_eq]; exact hwt3) wr HDD.out (fun k hk2 => .inr (Nat.le_trans hp3 (Nat.le_trans hk.out.size hk2))) (fun w' hk2 => HW.out.below (HBL.out.trans (hk2.bel HFL.out HBL.out.size))))
      unfold HFeedTo at HF
      rw [bs_of, ← HTT.out, HE1.out, HXX.out] at HF
      clear HDN
      go_wp2_with fail
      with_reducible refine HF.out.mono ?_
      rintro e w4 ⟨rfl, hd4, hk4⟩
      have HR4 := HRL.out.keep hk4 HNL.out
      have l0 : w4.cell? ⟨w.heap.size, 0, none⟩ = some (.int .i64 l) := HR4.cell 0
      have l1 : w4.cell? ⟨w.heap.size, 1, none⟩ = some (.int .i64 h) := HR4.cell 1
      have l2 : w4.cell? ⟨w.heap.size, 2, none⟩ = some (.int .i64 cc) := HR4.cell 2
      have l3 : w4.cell? ⟨w.heap.size, 3, none⟩ = some (.int .i64 b) := HR4.cell 3
      have HD4 := Lib.hid hd4
      have HK4 := Lib.hid (hk.out.trans hk4)
      clear hd4 hk4 HF HR4 HRL
      go_wp2_with fail
      with_reducible refine (HBt.out w4).mono ?_
      rintro e w5 ⟨v, rfl, hov, hb5⟩
      obtain ⟨va, vc, rfl, hfv⟩ := own_isFldsE hov
      have HFV := Lib.hid (hfv.below (below_alloc w5 (.cells #[.string F1, .bool qB, .slice va FS.length vc, .int .i64 (n1 : Int), .bool q1, .int .i64 E1] 37)))
      have RW := Row.new w5 37 #[.string F1, .bool qB, .slice va FS.length vc, .int .i64 (n1 : Int), .bool q1, .int .i64 E1]
      have hb56 := hb5.alloc hb5.size (.cells #[.string F1, .bool qB, .slice va FS.length vc, .int .i64 (n1 : Int), .bool q1, .int .i64 E1] 37)
      clear hov hfv hb5 l0 l1 l2 l3
      go_upto_region 16 with fail
      obtain ⟨bW, hbWe⟩ : ∃ bW, bW = w5.heap.size := ⟨_, rfl⟩
      rw [← hbWe] at RW ⊢
      generalize w5.alloc (.cells #[.string F1, .bool qB, .slice va FS.length vc, .int .i64 (n1 : Int), .bool q1, .int .i64 E1] 37) = wX at *
      have cW0 : wX.cell? ⟨bW, 0, none⟩ = some (.string F1) := RW.cell 0
      have cW1 : wX.cell? ⟨bW, 1, none⟩ = some (.bool qB) := RW.cell 1
      have cW2 : wX.cell? ⟨bW, 2, none⟩ = some (.slice va FS.length vc) := RW.cell 2
      have cW3 : wX.cell? ⟨bW, 3, none⟩ = some (.int .i64 (n1 : Int)) := RW.cell 3
      have cW4 : wX.cell? ⟨bW, 4, none⟩ = some (.bool q1) := RW.cell 4
      have cW5 : wX.cell? ⟨bW, 5, none⟩ = some (.int .i64 E1) := RW.cell 5
      have hltW := RW.lt
      obtain ⟨nf, hnf⟩ : ∃ nf, nf = FS.length := ⟨_, rfl⟩
      rw [← hnf] at cW2 ⊢
      have HNF := Lib.hid hnf
      have HD6 := Lib.hid (HD4.out.below hb56)
      have HREL : Hid (Hid (HeS (fun j => j = g ∨ p0 ≤ j) 66 [] wX g ⟨l, h, cc⟩ b (hRun ⟨l, h, cc⟩ hd0 (t ++ p).data.toList)) ∧ Hid (Keep (fun j => j = g ∨ p0 ≤ j) w3 wX)) := by
        refine ⟨?_, HK4.out.trans (.of_below hb56)⟩
        show HeS _ _ _ _ _ _ _ _
        rw [HTP.out, show hRun ⟨l, h, cc⟩ hd0 (t.data.toList ++ p.data.toList) = hRun ⟨l, h, cc⟩ (hRun ⟨l, h, cc⟩ hd0 t.data.toList) p.data.toList from mRun_app .., ← HS.out, ← HTT.out]
        exact HD6.out
      have HDN := Lib.hid (fun W h9 => hdoneS (fun j => j = g ∨ p0 ≤ j) 66 [] g ⟨l, h, cc⟩ b τ W h9)
      have HBN := Lib.hid (fun W h9 => hbegunS (fun j => j = g ∨ p0 ≤ j) 66 [] g ⟨l, h, cc⟩ b τ W h9)
      have HFN := Lib.hid (fun W h9 => hfirstS (fun j => j = g ∨ p0 ≤ j) 66 [] g ⟨l, h, cc⟩ b τ W h9)
      have HLN := Lib.hid (fun W h9 => hfields15 (fun j => j = g ∨ p0 ≤ j) 66 [] g ⟨l, h, cc⟩ b τ (by rw [HFS.out]; omega) W h9)
      rw [HQ1.out] at HDN
      rw [HQB.out] at HBN
      rw [HF1.out] at HFN
      rw [HFS.out, ← hnf] at HLN
      have HIS := Lib.hid (fun W fa fc h1 h2 => lawIs45 fa fc FS va vc FS true (by simp) (by omega) (by omega) W h1 h2)
      rw [← hnf] at HIS
      clear hb56 HD4 HK4 HBt HDD RW hbWe hnf
      go_upto_if 47 with fail
      go_cut [15] (fun s15 wx => wX = wx ∧ ∃ y15, s15 = .string y15 ∧ Hid (q0 = false → y15 = X))
      case first =>
        cases q1
        · go_wp2_with fail
          go_meet
          exact ⟨rfl, _, rfl, fun _ => (HX3'.out (by trivial)).symm⟩
        · go_wp2_with fail
          go_meet
          exact ⟨rfl, _, rfl, fun h => HX2.out h (by trivial)⟩
      case rest =>
      obtain ⟨rfl, y15, rfl, hy15⟩ := hcut
      go_upto_if 52 with fail
      go_cut [15] (fun s15 wx => wX = wx ∧ s15 = .string X)
      case first =>
        cases q0
        · go_wp2_with fail
          go_meet
          exact ⟨rfl, by rw [hy15.out (by trivial)]⟩
        · go_wp2_with fail
          go_meet
          exact ⟨rfl, by rw [HX1.out (by trivial)]⟩
      case rest =>
      obtain ⟨rfl, rfl⟩ := hcut
      clear hy15
      go_wp2_with fail
      refine region_mixt 38 [some (.int .i64 E1), some (.pointer (some ⟨bW, 5, none⟩)), some (.int .i64 E1), some (.bool false), some (.bool false), some (.string X), some (.string X), some (.bool false), some (.bool false), some (.bool false), some (.pointer (some ⟨g, 0, none⟩)), some (.bool q1), some (.pointer (some ⟨bW, 4, none⟩)), some (.bool q1), some (.bool false), some (.bool false), some (.bool false), some (.pointer (some ⟨g, 0, none⟩)), some (.bool qB), some (.pointer (some ⟨bW, 1, none⟩)), some (.bool qB), some (.bool false), some (.bool false), some (.bool false), some (.pointer (some ⟨g, 0, none⟩)), some (.string F1), some (.pointer (some ⟨bW, 0, none⟩)), some (.string F1), some (.bool false), some (.bool false), some (.bool false), some (.pointer (some ⟨g, 0, none⟩)), none, some (.pointer (some ⟨bW, 2, none⟩)), some (.slice va nf vc), some (.bool true), some (.bool false), some (.bool false)]
        [[false, false, false, false, false, false, false, false, false, false, false, false, false, false, false, false, false, false, false, false, false, false, false, false, false, false, false, false, false, false, false, false, false, false, false, false, false, false], [false, false, false, false, false, false, false, false, false, false, false, false, false, false, false, false, false, false, false, false, false, false, false, false, false, false, false, false, false, false, false, false, false, false, false, false, false, false], [false, true, false, false, false, false, false, false, false, false, false, false, false, false, false, false, false, false, false, false, false, false, false, false, false, false, false, false, false, false, false, false, false, false, false, false, false, false], [true, false, true, false, false, false, false, false, false, false, false, false, false, false, false, false, false, false, false, false, false, false, false, false, false, false, false, false, false, false, false, false, false, false, false, false, false, false], [false, false, false, true, false, false, false, false, false, false, false, false, false, false, false, false, false, false, false, false, false, false, false, false, false, false, false, false, false, false, false, false, false, false, false, false, false, false], [false, false, false, false, true, false, false, false, false, false, false, false, false, false, false, false, false, false, false, false, false, false, false, false, false, false, false, false, false, false, false, false, false, false, false, false, false, false], [false, false, false, false, true, false, false, false, false, false, false, false, false, false, false, false, false, false, false, false, false, false, false, false, false, false, false, false, false, false, false, false, false, false, false, false, false, false], [false, false, false, false, true, true, true, false, false, false, false, false, false, false, false, false, false, false, false, false, false, false, false, false, false, false, false, false, false, false, false, false, false, false, false, false, false, false], [false, false, false, false, true, false, false, true, false, false, false, false, false, false, false, false, false, false, false, false, false, false, false, false, false, false, false, false, false, false, false, false, false, false, false, false, false, false], [false, false, false, false, true, false, false, false, true, false, false, false, false, false, false, false, false, false, false, false, false, false, false, false, false, false, false, false, false, false, false, false, false, false, false, false, false, false], [false, false, false, false, false, false, false, false, false, true, false, false, false, false, false, false, false, false, false, false, false, false, false, false, false, false, false, false, false, false, false, false, false, false, false, false, false, false], [false, false, false, false, false, false, false, false, false, true, true, false, false, false, false, false, false, false, false, false, false, false, false, false, false, false, false, false, false, false, false, false, false, false, false, false, false, false], [false, false, false, false, false, false, false, false, false, true, false, false, false, false, false, false, false, false, false, false, false, false, false, false, false, false, false, false, false, false, false, false, false, false, false, false, false, false], [false, false, false, false, false, false, false, false, false, true, false, false, true, false, false, false, false, false, false, false, false, false, false, false, false, false, false, false, false, false, false, false, false, false, false, false, false, false], [false, false, false, false, false, false, false, false, false, true, false, true, false, true, false, false, false, false, false, false, false, false, false, false, false, false, false, false, false, false, false, false, false, false, false, false, false, false], [false, false, false, false, false, false, false, false, false, true, false, false, false, false, true, false, false, false, false, false, false, false, false, false, false, false, false, false, false, false, false, false, false, false, false, false, false, false], [false, false, false, false, false, false, false, false, false, false, false, true, false, false, false, true, false, false, false, false, false, false, false, false, false, false, false, false, false, false, false, false, false, false, false, false, false, false], [false, false, false, false, false, false, false, false, false, false, false, false, false, false, false, false, true, false, false, false, false, false, false, false, false, false, false, false, false, false, false, false, false, false, false, false, false, false], [false, false, false, false, false, false, false, false, false, false, false, false, false, false, false, false, true, true, false, false, false, false, false, false, false, false, false, false, false, false, false, false, false, false, false, false, false, false], [false, false, false, false, false, false, false, false, false, false, false, false, false, false, false, false, true, false, false, false, false, false, false, false, false, false, false, false, false, false, false, false, false, false, false, false, false, false], [false, false, false, false, false, false, false, false, false, false, false, false, false, false, false, false, true, false, false, true, false, false, false, false, false, false, false, false, false, false, false, false, false, false, false, false, false, false], [false, false, false, false, false, false, false, false, false, false, false, false, false, false, false, false, true, false, true, false, true, false, false, false, false, false, false, false, false, false, false, false, false, false, false, false, false, false], [false, false, false, false, false, false, false, false, false, false, false, false, false, false, false, false, true, false, false, false, false, true, false, false, false, false, false, false, false, false, false, false, false, false, false, false, false, false], [false, false, false, false, false, false, false, false, false, false, false, false, false, false, false, false, false, false, true, false, false, false, true, false, false, false, false, false, false, false, false, false, false, false, false, false, false, false], [false, false, false, false, false, false, false, false, false, false, false, false, false, false, false, false, false, false, false, false, false, false, false, true, false, false, false, false, false, false, false, false, false, false, false, false, false, false], [false, false, false, false, false, false, false, false, false, false, false, false, false, false, false, false, false, false, false, false, false, false, false, true, true, false, false, false, false, false, false, false, false, false, false, false, false, false], [false, false, false, false, false, false, false, false, false, false, false, false, false, false, false, false, false, false, false, false, false, false, false, true, false, false, false, false, false, false, false, false, false, false, false, false, false, false], [false, false, false, false, false, false, false, false, false, false, false, false, false, false, false, false, false, false, false, false, false, false, false, true, false, false, true, false, false, false, false, false, false, false, false, false, false, false], [false, false, false, false, false, false, false, false, false, false, false, false, false, false, false, false, false, false, false, false, false, false, false, true, false, true, false, true, false, false, false, false, false, false, false, false, false, false], [false, false, false, false, false, false, false, false, false, false, false, false, false, false, false, false, false, false, false, false, false, false, false, true, false, false, false, false, true, false, false, false, false, false, false, false, false, false], [false, false, false, false, false, false, false, false, false, false, false, false, false, false, false, false, false, false, false, false, false, false, false, false, false, true, false, false, false, true, false, false, false, false, false, false, false, false], [false, false, false, false, false, false, false, false, false, false, false, false, false, false, false, false, false, false, false, false, false, false, false, false, false, false, false, false, false, false, true, false, false, false, false, false, false, false], [false, false, false, false, false, false, false, false, false, false, false, false, false, false, false, false, false, false, false, false, false, false, false, false, false, false, false, false, false, false, true, true, false, false, false, false, false, false], [false, false, false, false, false, false, false, false, false, false, false, false, false, false, false, false, false, false, false, false, false, false, false, false, false, false, false, false, false, false, true, false, false, false, false, false, false, false], [false, false, false, false, false, false, false, false, false, false, false, false, false, false, false, false, false, false, false, false, false, false, false, false, false, false, false, false, false, false, true, false, false, true, false, false, false, false], [false, false, false, false, false, false, false, false, false, false, false, false, false, false, false, false, false, false, false, false, false, false, false, false, false, false, false, false, false, false, true, false, true, false, true, false, false, false], [false, false, false, false, false, false, false, false, false, false, false, false, false, false, false, false, false, false, false, false, false, false, false, false, false, false, false, false, false, false, true, false, false, false, false, true, false, false], [false, false, false, false, false, false, false, false, false, false, false, false, false, false, false, false, false, false, false, false, false, false, false, false, false, false, false, false, false, false, true, false, false, false, false, false, true, false]]
        (fun L x w1 => Below wX.heap.size wX w1 ∧ (L 32 = true → ∃ fa fc, x 32 = .slice fa nf fc ∧ IsFlds w1 fa fc FS))
        (by kernel_rfl) (by kernel_rfl) (by kernel_rfl) (by kernel_rfl) (by kernel_rfl) (by decide) ?_ ?_ ?_
      · intro _
        exact ⟨⟨rfl, rfl, rfl, Nat.le_refl _, fun _ _ => rfl⟩, fun h => by cases h⟩
      · simp only [List.take_succ_cons, List.take_zero]
        refine ⟨?_, ?_, ?_, ?_, ?_, ?_, ?_, ?_, ?_, ?_, ?_, ?_, ?_, ?_, ?_, ?_, ?_, ?_, ?_, ?_, ?_, ?_, ?_, ?_, ?_, ?_, ?_, ?_, ?_, ?_, ?_, ?_, ?_, ?_, ?_, ?_, ?_, ?_, trivial⟩
        all_goals
          intro L x w9 hS hl hp K9 hK9
          have hs : Below wX.heap.size wX w9 ∧ (L 32 = true → ∃ fa fc, x 32 = .slice fa nf fc ∧ IsFlds w9 fa fc FS) := hS
          clear hS
          replace hK9 := hK9.out
          simp only [actMix, pickV, List.tail_cons, List.headD_cons, Act.put, List.setIfInBounds_toArray, List.set_cons_zero, List.set_cons_succ] at hK9 ⊢
        · go_simp
          with_reducible refine hK9 _ ?_
          exact ⟨hs.1, fun h => by
            obtain ⟨fa, fc, h1, h2⟩ := hs.2 (by simpa [setL] using h)
            exact ⟨fa, fc, by simpa [updV] using h1, h2⟩⟩
        · go_simp
          with_reducible refine hK9 _ ?_
          exact ⟨hs.1, fun h => by
            obtain ⟨fa, fc, h1, h2⟩ := hs.2 (by simpa [setL] using h)
            exact ⟨fa, fc, by simpa [updV] using h1, h2⟩⟩
        · have r9 : w9.cell? ⟨bW, 5, none⟩ = some (.int .i64 E1) := by rw [(bcell hs.1).1 _ _ hltW]; exact cW5
          go_simp
          with_reducible refine hK9 _ ?_
          exact ⟨hs.1, fun h => by
            obtain ⟨fa, fc, h1, h2⟩ := hs.2 (by simpa [setL] using h)
            exact ⟨fa, fc, by simpa [updV] using h1, h2⟩⟩
        · go_simp
          with_reducible refine hK9 _ ?_
          exact ⟨hs.1, fun h => by
            obtain ⟨fa, fc, h1, h2⟩ := hs.2 (by simpa [setL] using h)
            exact ⟨fa, fc, by simpa [updV] using h1, h2⟩⟩
        · go_simp
          with_reducible refine hK9 _ ?_
          exact ⟨hs.1, fun h => by
            obtain ⟨fa, fc, h1, h2⟩ := hs.2 (by simpa [setL] using h)
            exact ⟨fa, fc, by simpa [updV] using h1, h2⟩⟩
        · go_simp
          with_reducible refine hK9 _ ?_
          exact ⟨hs.1, fun h => by
            obtain ⟨fa, fc, h1, h2⟩ := hs.2 (by simpa [setL] using h)
            exact ⟨fa, fc, by simpa [updV] using h1, h2⟩⟩
        · go_simp
          with_reducible refine hK9 _ ?_
          exact ⟨hs.1, fun h => by
            obtain ⟨fa, fc, h1, h2⟩ := hs.2 (by simpa [setL] using h)
            exact ⟨fa, fc, by simpa [updV] using h1, h2⟩⟩
        · go_simp
          with_reducible refine hK9 _ ?_
          exact ⟨hs.1, fun h => by
            obtain ⟨fa, fc, h1, h2⟩ := hs.2 (by simpa [setL] using h)
            exact ⟨fa, fc, by simpa [updV] using h1, h2⟩⟩
        · go_simp
          with_reducible refine hK9 _ ?_
          exact ⟨hs.1, fun h => by
            obtain ⟨fa, fc, h1, h2⟩ := hs.2 (by simpa [setL] using h)
            exact ⟨fa, fc, by simpa [updV] using h1, h2⟩⟩
        · go_simp
          with_reducible refine hK9 _ ?_
          exact ⟨hs.1, fun h => by
            obtain ⟨fa, fc, h1, h2⟩ := hs.2 (by simpa [setL] using h)
            exact ⟨fa, fc, by simpa [updV] using h1, h2⟩⟩
        · go_simp
          with_reducible refine hK9 _ ?_
          exact ⟨hs.1, fun h => by
            obtain ⟨fa, fc, h1, h2⟩ := hs.2 (by simpa [setL] using h)
            exact ⟨fa, fc, by simpa [updV] using h1, h2⟩⟩
        · go_simp
          refine (HDN.out w9 (HD6.out.below hs.1)).mono ?_
          rintro e9 w' ⟨rfl, rfl⟩
          with_reducible refine hK9 _ ?_
          exact ⟨hs.1, fun h => by
            obtain ⟨fa, fc, h1, h2⟩ := hs.2 (by simpa [setL] using h)
            exact ⟨fa, fc, by simpa [updV] using h1, h2⟩⟩
        · go_simp
          with_reducible refine hK9 _ ?_
          exact ⟨hs.1, fun h => by
            obtain ⟨fa, fc, h1, h2⟩ := hs.2 (by simpa [setL] using h)
            exact ⟨fa, fc, by simpa [updV] using h1, h2⟩⟩
        · have r9 : w9.cell? ⟨bW, 4, none⟩ = some (.bool q1) := by rw [(bcell hs.1).1 _ _ hltW]; exact cW4
          go_simp
          with_reducible refine hK9 _ ?_
          exact ⟨hs.1, fun h => by
            obtain ⟨fa, fc, h1, h2⟩ := hs.2 (by simpa [setL] using h)
            exact ⟨fa, fc, by simpa [updV] using h1, h2⟩⟩
        · go_simp
          with_reducible refine hK9 _ ?_
          exact ⟨hs.1, fun h => by
            obtain ⟨fa, fc, h1, h2⟩ := hs.2 (by simpa [setL] using h)
            exact ⟨fa, fc, by simpa [updV] using h1, h2⟩⟩
        · go_simp
          with_reducible refine hK9 _ ?_
          exact ⟨hs.1, fun h => by
            obtain ⟨fa, fc, h1, h2⟩ := hs.2 (by simpa [setL] using h)
            exact ⟨fa, fc, by simpa [updV] using h1, h2⟩⟩
        · go_simp
          with_reducible refine hK9 _ ?_
          exact ⟨hs.1, fun h => by
            obtain ⟨fa, fc, h1, h2⟩ := hs.2 (by simpa [setL] using h)
            exact ⟨fa, fc, by simpa [updV] using h1, h2⟩⟩
        · go_simp
          with_reducible refine hK9 _ ?_
          exact ⟨hs.1, fun h => by
            obtain ⟨fa, fc, h1, h2⟩ := hs.2 (by simpa [setL] using h)
            exact ⟨fa, fc, by simpa [updV] using h1, h2⟩⟩
        · go_simp
          refine (HBN.out w9 (HD6.out.below hs.1)).mono ?_
          rintro e9 w' ⟨rfl, rfl⟩
          with_reducible refine hK9 _ ?_
          exact ⟨hs.1, fun h => by
            obtain ⟨fa, fc, h1, h2⟩ := hs.2 (by simpa [setL] using h)
            exact ⟨fa, fc, by simpa [updV] using h1, h2⟩⟩
        · go_simp
          with_reducible refine hK9 _ ?_
          exact ⟨hs.1, fun h => by
            obtain ⟨fa, fc, h1, h2⟩ := hs.2 (by simpa [setL] using h)
            exact ⟨fa, fc, by simpa [updV] using h1, h2⟩⟩
        · have r9 : w9.cell? ⟨bW, 1, none⟩ = some (.bool qB) := by rw [(bcell hs.1).1 _ _ hltW]; exact cW1
          go_simp
          with_reducible refine hK9 _ ?_
          exact ⟨hs.1, fun h => by
            obtain ⟨fa, fc, h1, h2⟩ := hs.2 (by simpa [setL] using h)
            exact ⟨fa, fc, by simpa [updV] using h1, h2⟩⟩
        · go_simp
          with_reducible refine hK9 _ ?_
          exact ⟨hs.1, fun h => by
            obtain ⟨fa, fc, h1, h2⟩ := hs.2 (by simpa [setL] using h)
            exact ⟨fa, fc, by simpa [updV] using h1, h2⟩⟩
        · go_simp
          with_reducible refine hK9 _ ?_
          exact ⟨hs.1, fun h => by
            obtain ⟨fa, fc, h1, h2⟩ := hs.2 (by simpa [setL] using h)
            exact ⟨fa, fc, by simpa [updV] using h1, h2⟩⟩
        · go_simp
          with_reducible refine hK9 _ ?_
          exact ⟨hs.1, fun h => by
            obtain ⟨fa, fc, h1, h2⟩ := hs.2 (by simpa [setL] using h)
            exact ⟨fa, fc, by simpa [updV] using h1, h2⟩⟩
        · go_simp
          with_reducible refine hK9 _ ?_
          exact ⟨hs.1, fun h => by
            obtain ⟨fa, fc, h1, h2⟩ := hs.2 (by simpa [setL] using h)
            exact ⟨fa, fc, by simpa [updV] using h1, h2⟩⟩
        · go_simp
          refine (HFN.out w9 (HD6.out.below hs.1)).mono ?_
          rintro e9 w' ⟨rfl, rfl⟩
          with_reducible refine hK9 _ ?_
          exact ⟨hs.1, fun h => by
            obtain ⟨fa, fc, h1, h2⟩ := hs.2 (by simpa [setL] using h)
            exact ⟨fa, fc, by simpa [updV] using h1, h2⟩⟩
        · go_simp
          with_reducible refine hK9 _ ?_
          exact ⟨hs.1, fun h => by
            obtain ⟨fa, fc, h1, h2⟩ := hs.2 (by simpa [setL] using h)
            exact ⟨fa, fc, by simpa [updV] using h1, h2⟩⟩
        · have r9 : w9.cell? ⟨bW, 0, none⟩ = some (.string F1) := by rw [(bcell hs.1).1 _ _ hltW]; exact cW0
          go_simp
          with_reducible refine hK9 _ ?_
          exact ⟨hs.1, fun h => by
            obtain ⟨fa, fc, h1, h2⟩ := hs.2 (by simpa [setL] using h)
            exact ⟨fa, fc, by simpa [updV] using h1, h2⟩⟩
        · go_simp
          with_reducible refine hK9 _ ?_
          exact ⟨hs.1, fun h => by
            obtain ⟨fa, fc, h1, h2⟩ := hs.2 (by simpa [setL] using h)
            exact ⟨fa, fc, by simpa [updV] using h1, h2⟩⟩
        · go_simp
          with_reducible refine hK9 _ ?_
          exact ⟨hs.1, fun h => by
            obtain ⟨fa, fc, h1, h2⟩ := hs.2 (by simpa [setL] using h)
            exact ⟨fa, fc, by simpa [updV] using h1, h2⟩⟩
        · go_simp
          with_reducible refine hK9 _ ?_
          exact ⟨hs.1, fun h => by
            obtain ⟨fa, fc, h1, h2⟩ := hs.2 (by simpa [setL] using h)
            exact ⟨fa, fc, by simpa [updV] using h1, h2⟩⟩
        · go_simp
          with_reducible refine hK9 _ ?_
          exact ⟨hs.1, fun h => by
            obtain ⟨fa, fc, h1, h2⟩ := hs.2 (by simpa [setL] using h)
            exact ⟨fa, fc, by simpa [updV] using h1, h2⟩⟩
        · go_simp
          refine (HLN.out w9 (HD6.out.below hs.1)).mono ?_
          rintro e9 w8 ⟨fa, fc, rfl, hf8, hb8⟩
          with_reducible refine hK9 _ _ ?_
          exact ⟨hs.1.trans (hb8.mono hs.1.size), fun _ => ⟨fa, fc, by simp [updV], hf8⟩⟩
        · go_simp
          with_reducible refine hK9 _ ?_
          exact ⟨hs.1, fun h => by
            obtain ⟨fa, fc, h1, h2⟩ := hs.2 (by simpa [setL] using h)
            exact ⟨fa, fc, by simpa [updV] using h1, h2⟩⟩
        · have r9 : w9.cell? ⟨bW, 2, none⟩ = some (.slice va nf vc) := by rw [(bcell hs.1).1 _ _ hltW]; exact cW2
          go_simp
          with_reducible refine hK9 _ ?_
          exact ⟨hs.1, fun h => by
            obtain ⟨fa, fc, h1, h2⟩ := hs.2 (by simpa [setL] using h)
            exact ⟨fa, fc, by simpa [updV] using h1, h2⟩⟩
        · obtain ⟨fa, fc, hx9, hf9⟩ := hs.2 (allL_mem hp 32 (by decide +kernel))
          rw [hx9] at hK9 ⊢
          go_simp
          refine (HIS.out w9 fa fc hf9 (HFV.out.below hs.1)).mono ?_
          rintro e9 w8 ⟨rfl, hb8⟩
          with_reducible refine hK9 _ ?_
          exact ⟨hs.1.trans (hb8.mono hs.1.size), fun h => ⟨fa, fc, by simpa [updV] using hx9, hf9.below hb8⟩⟩
        · go_simp
          with_reducible refine hK9 _ ?_
          exact ⟨hs.1, fun h => by
            obtain ⟨fa, fc, h1, h2⟩ := hs.2 (by simpa [setL] using h)
            exact ⟨fa, fc, by simpa [updV] using h1, h2⟩⟩
        · go_simp
          with_reducible refine hK9 _ ?_
          exact ⟨hs.1, fun h => by
            obtain ⟨fa, fc, h1, h2⟩ := hs.2 (by simpa [setL] using h)
            exact ⟨fa, fc, by simpa [updV] using h1, h2⟩⟩
      intro L x w9 hS hL
      have hs : Below wX.heap.size wX w9 ∧ (L 32 = true → ∃ fa fc, x 32 = .slice fa nf fc ∧ IsFlds w9 fa fc FS) := hS
      obtain ⟨fa, fc, hx9, hf9⟩ := hs.2 (hL 32 (by decide))
      have hb9 := hs.1
      clear hS hL hs
      simp only [actMix, pickV, List.tail_cons, List.headD_cons, Act.put, List.setIfInBounds_toArray, List.set_cons_zero, List.set_cons_succ, List.replicate_succ, List.replicate_zero, List.drop_succ_cons, List.drop_zero, List.take_succ_cons, List.take_zero]
      obtain ⟨v9, hv9⟩ : ∃ v9, v9 = x 32 := ⟨_, rfl⟩
      rw [← hv9] at hx9 ⊢
      subst hx9
      have HDR : Hid (Hid (HeS (fun j => j = g ∨ p0 ≤ j) 66 [] w9 g ⟨l, h, cc⟩ b (hRun ⟨l, h, cc⟩ hd0 (t ++ p).data.toList)) ∧ Hid (Keep (fun j => j = g ∨ p0 ≤ j) w3 w9)) := ⟨HREL.out.1.out.below hb9, HREL.out.2.out.trans (.of_below hb9)⟩
      have HDR8 := HDR
      clear hv9 hf9 hb9 HREL HIS HFV HDR
      go_wp2_with fail
      go_roundg (ps.length - (j + 1))
      case measure => omega
      case rel => exact ⟨j + 1, t ++ p, rfl, by omega, rfl, by go_num, by show _ = _; rw [HTP.out, ← HFT.out], HDR8.out.1, HDR8.out.2⟩
    · have j1 : ¬ (j : Int) < ps.length := by omega
      go_wp2_with fail
      go_ret
      exact ⟨rfl, hbel⟩
end Go.Proofs.YtmcbaheaocfdnaaGreatDoor

