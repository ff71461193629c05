/- Packed: RgH, LawRgBuilds, RgJ, RgK, RgL. -/
import Derived.Deep.AppendLies
import Derived.Maps.OwnIn
import Derived.Test.YtklfpnnnoaaiaaaDoorG06
import Derived.Test.YtklfpnnnoaaiaaaDoorG07
/- the reference's Build of a ring (written by genrgh.py). -/
namespace Go.Proofs.YtklfpnnnoaaiaaaDoor
open Go.RowKit Go.Sort

/-- What is there while a point is made. -/
structure RbP (W : World) (eb : Nat) (N : ByteArray) (V : Int) (L : Nat → Bool) (x : Nat → Value) (w : World) : Prop where
  bel : Below W.heap.size W w
  box : Row w eb 51 #[.string N, .int .i64 V]
  z11 : L 11 = true → ∃ g, x 11 = .pointer (some ⟨g, 0, none⟩) ∧ W.heap.size ≤ g ∧ Row w g 40 #[.int .u64 0, .string ⟨#[]⟩]
section
variable {W : World} {eb : Nat} {N : ByteArray} {V : Int} {L : Nat → Bool} {x : Nat → Value} {w w' : World}
theorem RbP.below (h : RbP W eb N V L x w) (hb : Below w.heap.size w w') : RbP W eb N V L x w' :=
  ⟨h.bel.trans (hb.mono h.bel.size), h.box.below hb, fun e => by obtain ⟨g, h1, h2, h3⟩ := h.z11 e; exact ⟨g, h1, h2, h3.below hb⟩⟩
theorem RbP.next (h : RbP W eb N V L x w) (i : Nat) (u : Value) (h5 : i ≠ 11) : RbP W eb N V (setL L i) (updV x i u) w :=
  ⟨h.bel, h.box, fun e => by
    obtain ⟨g, h1, h2⟩ := h.z11 (by simpa [setL, Ne.symm h5] using e)
    exact ⟨g, by simp [updV, Ne.symm h5, h1], h2⟩⟩
theorem RbP.put (h : RbP W eb N V L x w) : RbP W eb N V (setL L 11) (updV x 11 (.pointer (some ⟨w.heap.size, 0, none⟩))) (w.alloc (.cells #[.int .u64 0, .string ⟨#[]⟩] 40)) := by
  have h' := h.below (below_alloc w (.cells #[.int .u64 0, .string ⟨#[]⟩] 40))
  exact ⟨h'.bel, h'.box, fun _ => ⟨w.heap.size, by simp [updV], h.bel.size, Row.new w _ _⟩⟩
end
set_option maxRecDepth 100000 in
set_option maxHeartbeats 8000000 in
theorem refBuild30 (k : Nat → UInt8) (kb : ByteArray) (hk1 : (16 : Int) ≤ kb.size) (e1 : kb.extract 0 8 = ⟨(keyPart k 0).toArray⟩) (e2 : kb.extract 8 16 = ⟨(keyPart k 8).toArray⟩)
    (es : List Ent) (hl : es.length ≤ 6) (hz : ∀ e ∈ es, e.1.size ≤ 1000) (hv : validB es = true) (per : Int) (p : Nat) (hper : max 1 (min per 256) = (p : Int)) (a : Option Addr) (c : Nat) (w : World) (hf : IsEnts w a c es) :
    Calls Tryd.prog 11 #[.string kb, .slice a es.length c, .int .i64 per] w fun e w' => ∃ a' c', e = .returned (.slice a' (srtP (ptsL k p (gmE es).toNat es)).length c') ∧ PtsAt w' a' c' (srtP (ptsL k p (gmE es).toNat es)) ∧ Below w.heap.size w w' := by
  obtain ⟨i0, hi0, hz0, hz1, hz2⟩ := info_parts infoPtR
  have hok : ∀ e ∈ es, okW e = true := by
    unfold validB at hv
    rw [Bool.and_eq_true] at hv
    exact fun e he => List.all_eq_true.1 hv.1 e he
  have hrange : ∀ e ∈ es, 1 ≤ e.2 ∧ e.2 ≤ 65535 := fun e he => by have := hok e he; unfold okW at this; simpa using this
  rw [← gmE_one (fun e he => (hrange e he).1) k p]
  have hG65 : gmE es ≤ 65535 := gmE_le (by decide) fun e he => (hrange e he).2
  have HGG := Lib.hid (fun e (he : e ∈ es) => gmE_ge he)
  obtain ⟨G, hG⟩ : ∃ G : Nat, max 1 (gmE es) = (G : Int) := ⟨(max 1 (gmE es)).toNat, by omega⟩
  have HGE : Hid (max 1 (gmE es) = (G : Int)) := hG
  have hg1 : 1 ≤ G := by omega
  have hg65 : G ≤ 65535 := by omega
  have HGL : Hid (gmE es ≤ (G : Int)) := by show _ ≤ _; omega
  rw [hG, Int.toNat_natCast]
  have hp1 : 1 ≤ p ∧ p ≤ 256 := by omega
  have HF := Lib.hid hf
  have HRG := Lib.hid hrange
  have HZ := Lib.hid hz
  have HSP0 := Lib.hid (fun N hN i hi W => sum_pt k kb hk1 e1 e2 N hN i hi W)
  have HB0 := Lib.hid (Below.refl w.heap.size w)
  clear hf hok hrange hv hz hG hG65 hk1 e1 e2
  go_enter Tryd.func11, Tryd.ntmps11
  go_wp2_with fail
  go_loopw [8, 22] (fun g i wr => ∃ (j : Nat) (g' : Int), j ≤ es.length ∧ g = .int .i64 g' ∧ i = .int .i64 (j : Int) ∧ Hid (g' = max 1 (gmE (es.take j))) ∧ Hid (Below w.heap.size w wr)) (fun _ i _ => es.length - (intOf i).toNat)
  case atStart => exact ⟨0, 1, Nat.zero_le _, rfl, rfl, rfl, HB0⟩
  case round =>
    clear HB0
    obtain ⟨j, g', hj, rfl, rfl, HG, HB⟩ := hrel
    by_cases hlt : j < es.length
    · obtain h0 | ⟨bk, o, rfl, hbk, hc, hcell⟩ := HF.out.below HB.out
      · subst h0; simp at hlt
      obtain ⟨c1, c2⟩ := hcell j es[j] (by simp [hlt])
      have j1 : (j : Int) < es.length := by omega
      have HG2 : Hid (max g' es[j].2 = max 1 (gmE (es.take (j + 1)))) := by
        show _ = _
        rw [gmE_step hlt, HG.out]; omega
      generalize es[j] = e at *
      obtain ⟨N, V⟩ := e
      simp only at c1 c2 HG2
      have HBA := Lib.hid (HB.out.alloc HB.out.size (.cells #[.string N, .int .i64 V] 51))
      clear hcell
      go_wp2_with fail
      go_roundw
      case rel => exact ⟨j + 1, _, hlt, rfl, by go_num, HG2, HBA⟩
      case measure => simp [intOf]; omega
    · obtain rfl : j = es.length := by omega
      have hne : ¬ (es.length : Int) < es.length := by omega
      obtain rfl : g' = (G : Int) := by rw [HG.out, List.take_length]; exact HGE.out
      clear HG HGE
      have HBL := Lib.hid HB.out.size
      go_upto_region 8 with fail
      have O0 : Hid ((wr.alloc (.cells #[] 40)).ownsRow w.heap.size 40 2 (.slice (some ⟨wr.heap.size, 0, none⟩) 0 0) 0 (cellsP (srtP (ptsL k p G (es.take 0))))) := by
        have := World.ownsRow_lit (e := 40) (size := 2) wr #[] 0 HB.out.size (by decide) (by simp)
        show World.ownsRow _ _ _ _ _ _ _
        rw [List.take_zero, show ptsL k p G [] = [] from rfl, srtP_nil]
        exact this
      have L0 := Lib.hid (HB.out.alloc HB.out.size (.cells #[] 40))
      have HN0 : Hid ((srtP (ptsL k p G (es.take 0))).length = 0) := by
        show _ = _
        rw [List.take_zero, show ptsL k p G [] = [] from rfl, srtP_nil]; rfl
      clear HB hlt hj hne
      go_wp2_with fail
      go_loopw [11, 34] (fun v i wr => ∃ (j m : Nat) (a' : Option Addr) (c' : Nat), j ≤ es.length ∧ v = .slice a' m c' ∧ i = .int .i64 (j : Int) ∧ Hid ((srtP (ptsL k p G (es.take j))).length = m) ∧ Hid (wr.ownsRow w.heap.size 40 2 (.slice a' m c') m (cellsP (srtP (ptsL k p G (es.take j))))) ∧ Hid (Below w.heap.size w wr)) (fun _ i _ => es.length - (intOf i).toNat)
      case atStart => exact ⟨0, 0, _, _, Nat.zero_le _, rfl, rfl, HN0, O0, L0⟩
      case round =>
        clear O0 L0 HN0
        obtain ⟨j, m, a1, c1', hj, rfl, rfl, HM, HO, HB⟩ := hrel
        by_cases hlt : j < es.length
        · obtain h0 | ⟨bk, o, rfl, hbk, hc, hcell⟩ := HF.out.below HB.out
          · subst h0; simp at hlt
          obtain ⟨c1, c2⟩ := hcell j es[j] (by simp [hlt])
          have hrg := HRG.out es[j] (List.getElem_mem hlt)
          have hgg := HGG.out es[j] (List.getElem_mem hlt)
          have hzz := HZ.out es[j] (List.getElem_mem hlt)
          have HST := Lib.hid (ptsL_step (k := k) (p := p) (G := G) hlt)
          have HTL : Hid (∀ i, i ≤ cntP p es[j].2.toNat G → (ptsL k p G (es.take j) ++ (ptsE k p G es[j]).take i).length ≤ 2000) := fun i hi => by
            have h1 := ptsL_le (k := k) (p := p) (G := G) (es := es.take j) (fun e he => by
              have h2 := HRG.out e (List.mem_of_mem_take he)
              have h3 := HGG.out e (List.mem_of_mem_take he)
              have h5 := HGL.out
              have := cnt_le (p := p) (W := e.2.toNat) (G := G) hp1.1 (by omega)
              omega)
            have h5 := HGL.out
            have h4 := cnt_le (p := p) (W := es[j].2.toNat) (G := G) hp1.1 (by omega)
            rw [List.length_append, List.length_take, ptsE_len]
            rw [List.length_take] at h1
            omega
          have HES : Hid (∀ i, i < cntP p (es[j]).2.toNat G → (ptsE k p G es[j]).take (i + 1) = (ptsE k p G es[j]).take i ++ [(ptV k (es[j]).1 i, (es[j]).1)]) := fun i h => ptsE_step h
          have hcl := cnt_le (p := p) (W := es[j].2.toNat) (G := G) hp1.1 (by have h5 := HGL.out; omega)
          have HEL := Lib.hid (ptsE_len k p G es[j])
          have j1 : (j : Int) < es.length := by omega
          generalize es[j] = e at *
          obtain ⟨N, V⟩ := e
          simp only at c1 c2 hrg hgg hzz HES hcl HTL HEL
          obtain ⟨U, rfl⟩ : ∃ U : Nat, V = (U : Int) := ⟨V.toNat, by omega⟩
          rw [Int.toNat_natCast] at HES hcl HTL HEL
          have HOa := Lib.hid (HO.out.alloc (.cells #[.string N, .int .i64 (U : Nat)] 51))
          have HBa := Lib.hid (HB.out.alloc HB.out.size (.cells #[.string N, .int .i64 (U : Nat)] 51))
          have HXa := Lib.hid (Row.new wr 51 #[.string N, .int .i64 (U : Nat)])
          have hpu : p * U ≤ 256 * 65535 := Nat.mul_le_mul hp1.2 (by omega)
          have hmul : (p : Int) * (U : Int) = ((p * U : Nat) : Int) := by simp
          have hwm := wrapR ((p * U : Nat) : Int) (by omega) (by omega)
          have hql : p * U / G ≤ p * U := Nat.div_le_self _ _
          have hquo : ((p * U : Nat) : Int).tdiv (G : Int) = ((p * U / G : Nat) : Int) := by rw [Int.tdiv_eq_ediv_of_nonneg (by omega)]; rfl
          have hmx : max 1 ((p * U / G : Nat) : Int) = ((cntP p U G : Nat) : Int) := by unfold cntP; omega
          have hG1 : ¬ (G : Int) = 0 := by omega
          have hG2 : ¬ G = 0 := by omega
          generalize p * U / G = q9 at hql hquo hmx
          have hwq := wrapR (q9 : Int) (by omega) (by omega)
          generalize p * U = pu at *
          clear hcell HO HB hbk
          go_upto_region 12 with fail
          clear c1 c2
          generalize heb : wr.heap.size = eb at *
          clear heb
          generalize wr.alloc (.cells #[.string N, .int .i64 (U : Nat)] 51) = wa at *
          have HN0 : Hid (wa.ownsRow w.heap.size 40 2 (.slice a1 m c1') m (cellsP (srtP (ptsL k p G (es.take j) ++ (ptsE k p G (N, (U : Int))).take 0)))) := by
            rw [List.take_zero, List.append_nil]; exact HOa
          have HM0 : Hid ((srtP (ptsL k p G (es.take j) ++ (ptsE k p G (N, (U : Int))).take 0)).length = m) := by
            rw [List.take_zero, List.append_nil]; exact HM
          clear HOa HM
          have HCL := Lib.hid hcl
          generalize hcn : cntP p U G = cn at *
          have HCN := Lib.hid hcn
          clear hcn
          generalize ptsL k p G (es.take j) = ps0 at *
          go_wp2_with fail
          go_loopw [11, 14] (fun v i wr => ∃ (i' m : Nat) (a' : Option Addr) (c' : Nat), i' ≤ cn ∧ v = .slice a' m c' ∧ i = .int .i64 (i' : Int) ∧ Hid (Row wr eb 51 #[.string N, .int .i64 (U : Nat)]) ∧ Hid ((srtP (ps0 ++ (ptsE k p G (N, (U : Int))).take i')).length = m) ∧ Hid (wr.ownsRow w.heap.size 40 2 (.slice a' m c') m (cellsP (srtP (ps0 ++ (ptsE k p G (N, (U : Int))).take i')))) ∧ Hid (Below w.heap.size w wr)) (fun _ i _ => cn - (intOf i).toNat)
          case atStart => exact ⟨0, m, _, _, Nat.zero_le _, rfl, rfl, HXa, HM0, HN0, HBa⟩
          case round =>
            clear HXa HN0 HBa HM0
            obtain ⟨i, m, a1, c1', hi, rfl, rfl, HX, HM, HO, HB⟩ := hrel
            have r1 : wr.cell? ⟨eb, 1, none⟩ = some (.int .i64 (U : Nat)) := by rw [HX.out.cell]; rfl
            by_cases hlt2 : i < cn
            · have HSTE := Lib.hid (HES.out i hlt2)
              have HTLE := Lib.hid (HTL.out i (by omega))
              have i1 : (i : Int) < cn := by omega
              have hi6 : i < 1000000 := by omega
              have HPR := Lib.hid (fun W => print10N i hi6 W)
              have HSP := Lib.hid (fun W => HSP0.out N (by omega) i hi6 W)
              have HINS : Hid (∀ a, (∀ x ∈ (srtP (ps0 ++ (ptsE k p G (N, (U : Int))).take i)).drop a, ltPt (ptV k N i, N) x) → (∀ x ∈ (srtP (ps0 ++ (ptsE k p G (N, (U : Int))).take i)).take a, ¬ ltPt (ptV k N i, N) x) → srtP (ps0 ++ (ptsE k p G (N, (U : Int))).take (i + 1)) = insL (srtP (ps0 ++ (ptsE k p G (N, (U : Int))).take i)) a (ptV k N i, N)) := fun a h1 h2 => by
                rw [HSTE.out, ← List.append_assoc]
                exact srtP_ins _ _ a h1 h2
              have HLOW : Hid (∀ a q, (srtP (ps0 ++ (ptsE k p G (N, (U : Int))).take i))[a]? = some q → ¬ ltPt (ptV k N i, N) q → ∀ x ∈ (srtP (ps0 ++ (ptsE k p G (N, (U : Int))).take i)).take (a + 1), ¬ ltPt (ptV k N i, N) x) := fun a q h1 h2 => srtP_low _ _ q a h1 h2
              have hm20 : m ≤ 2000 := by rw [← HM.out, (srtP_perm _).length_eq]; exact HTLE.out
              clear HSTE HTLE
              have hDS := Lib.hid (dig_small hi6)
              generalize ptV k N i = p1 at *
              generalize hD : digB i = D at *
              generalize srtP (ps0 ++ (ptsE k p G (N, (U : Int))).take i) = PS at *
              clear hD
              have HA1 : Hid (∀ W : World, (Op.stringOp .add N ⟨#[35]⟩).run Tryd.prog W = .ok (.string (N ++ ⟨#[35]⟩)) W) := fun W => run_string_add_sum W _ _ (by have : (⟨#[35]⟩ : ByteArray).size = 1 := rfl; omega)
              have HA2 : Hid (∀ W : World, (Op.stringOp .add (N ++ ⟨#[35]⟩) D).run Tryd.prog W = .ok (.string (N ++ ⟨#[35]⟩ ++ D)) W) := fun W => run_string_add_sum W _ _ (by have h1 : (⟨#[35]⟩ : ByteArray).size = 1 := rfl; have h2 := hDS.out; rw [ByteArray.size_append]; omega)
              have HMV : Hid (∃ V : Int, V = (U : Int)) := ⟨_, rfl⟩
              obtain ⟨V, hV⟩ := HMV.out
              go_upto_region 15 with fail
              rw [← hV] at HX
              clear hmul hwm hquo hmx hwq hG1 hG2 r1 HMV
              have HVE := Lib.hid hV
              clear hV
              refine region_mixt 12 [some (.string kb), some (.pointer (some ⟨eb, 0, none⟩)), some (.string N), some (.string (N ++ ⟨#[35]⟩)), some (.int .i64 (i : Nat)), some (.string D), some (.string (N ++ ⟨#[35]⟩ ++ D)), some (.int .u64 (p1 : Nat)), some (.pointer (some ⟨eb, 0, none⟩)), some (.string N), some (.agg #[.int .u64 (p1 : Nat), .string N]), none]
                [[false, false, false, false, false, false, false, false, false, false, false, false], [false, false, false, false, false, false, false, false, false, false, false, false], [false, true, false, false, false, false, false, false, false, false, false, false], [false, false, true, false, false, false, false, false, false, false, false, false], [false, false, false, false, false, false, false, false, false, false, false, false], [false, false, false, false, true, false, false, false, false, false, false, false], [false, false, false, true, false, true, false, false, false, false, false, false], [true, false, false, false, false, true, true, false, false, false, false, false], [false, false, false, false, false, false, false, false, false, false, false, false], [false, false, false, false, false, false, false, false, true, false, false, false], [false, false, false, false, false, false, false, true, false, true, false, false], [false, false, false, false, false, false, false, false, false, false, false, false]]
                (fun LL xx w9 => RbP wr eb N V LL xx w9)
                (by kernel_rfl) (by kernel_rfl) (by kernel_rfl) (by kernel_rfl) (by kernel_rfl) (by decide) ?_ ?_ ?_
              · intro x
                exact ⟨⟨rfl, rfl, rfl, Nat.le_refl _, fun _ _ => rfl⟩, HX.out.drew, (fun h => by cases h)⟩
              · simp only [List.take_succ_cons, List.take_zero]
                refine ⟨?_, ?_, ?_, ?_, ?_, ?_, ?_, ?_, ?_, ?_, ?_, ?_, trivial⟩
                all_goals
                  intro L x w9 hS hl hp K9 hK9
                  have hs : RbP wr eb N V L x w9 := hS
                  clear hS
                  replace hK9 := hK9.out
                  simp only [actMix, pickV, List.tail_cons, List.headD_cons, Act.put, List.setIfInBounds_toArray, List.set_cons_zero, List.set_cons_succ] at hK9 ⊢
                · clear hp
                  go_simp
                  with_reducible refine hK9 _ ?_
                  exact hs.next 0 _ (by decide)
                · clear hp
                  go_simp
                  with_reducible refine hK9 _ ?_
                  exact hs.next 1 _ (by decide)
                · have q1 : w9.cell? ⟨eb, 0, none⟩ = some (.string N) := by rw [hs.box.cell]; rfl
                  clear hp
                  go_simp
                  with_reducible refine hK9 _ ?_
                  exact hs.next 2 _ (by decide)
                · have hA1 := HA1.out
                  clear hp
                  go_simp
                  with_reducible refine hK9 _ ?_
                  exact hs.next 3 _ (by decide)
                · clear hp
                  go_simp
                  with_reducible refine hK9 _ ?_
                  exact hs.next 4 _ (by decide)
                · clear hp
                  go_simp
                  refine (HPR.out w9).mono ?_
                  rintro e w8 ⟨rfl, hB8⟩
                  go_simp
                  with_reducible refine hK9 _ ?_
                  exact (hs.below hB8).next 5 _ (by decide)
                · have hA2 := HA2.out
                  clear hp
                  go_simp
                  with_reducible refine hK9 _ ?_
                  exact hs.next 6 _ (by decide)
                · clear hp
                  go_simp
                  refine (HSP.out w9).mono ?_
                  rintro e w8 ⟨rfl, hB8⟩
                  go_simp
                  with_reducible refine hK9 _ ?_
                  exact (hs.below hB8).next 7 _ (by decide)
                · clear hp
                  go_simp
                  with_reducible refine hK9 _ ?_
                  exact hs.next 8 _ (by decide)
                · have q1 : w9.cell? ⟨eb, 0, none⟩ = some (.string N) := by rw [hs.box.cell]; rfl
                  clear hp
                  go_simp
                  with_reducible refine hK9 _ ?_
                  exact hs.next 9 _ (by decide)
                · clear hp
                  go_simp
                  with_reducible refine hK9 _ ?_
                  exact hs.next 10 _ (by decide)
                · clear hp
                  go_simp
                  with_reducible refine hK9 _ _ ?_
                  exact hs.put
              intro L x w9 hS hL
              have hs : RbP wr eb N V L x w9 := hS
              obtain ⟨pb, hxp, hpb, hrp⟩ := hs.z11 (hL 11 (by decide))
              simp only [actMix, pickV, List.tail_cons, List.headD_cons, Act.put, List.setIfInBounds_toArray, List.set_cons_zero, List.set_cons_succ, List.replicate_succ, List.replicate_zero, List.drop_succ_cons, List.drop_zero, List.take_succ_cons, List.take_zero]
              generalize x 11 = xp at *
              subst hxp
              have f0 := hrp.free 0
              have f1 := hrp.free 1
              have c0 : w9.cell? ⟨pb, 0, none⟩ = some (.int .u64 0) := by rw [hrp.cell]; rfl
              have c1 : w9.cell? ⟨pb, 1, none⟩ = some (.string ⟨#[]⟩) := by rw [hrp.cell]; rfl
              have RF := (hrp.put 0 (.int .u64 (p1 : Nat))).put 1 (.string N)
              have hne1 : eb ≠ pb := hs.box.ne hrp (by decide)
              have HP3 : Hid (Row ((w9.setCell ⟨pb, 0, none⟩ (.int .u64 (p1 : Nat))).setCell ⟨pb, 1, none⟩ (.string N)) pb 40 #[.int .u64 (p1 : Nat), .string N]) := RF
              have HX3 : Hid (Row ((w9.setCell ⟨pb, 0, none⟩ (.int .u64 (p1 : Nat))).setCell ⟨pb, 1, none⟩ (.string N)) eb 51 #[.string N, .int .i64 V]) := (hs.box.far (p := ⟨pb, 0, none⟩) hne1 _).far (p := ⟨pb, 1, none⟩) hne1 _
              have ho9 := ownB_keepR HO.out hs.bel
              have hown : (Value.slice a1 m c1').ownBlock ≠ some pb := fun e => by
                have := (HO.out.lt _ e).2; omega
              have HO3 : Hid (((w9.setCell ⟨pb, 0, none⟩ (.int .u64 (p1 : Nat))).setCell ⟨pb, 1, none⟩ (.string N)).ownsRow w.heap.size 40 2 (.slice a1 m c1') m (cellsP PS)) := own_farR (own_farR ho9 hown _) hown _
              have hwp : w.heap.size ≤ pb := Nat.le_trans HB.out.size hpb
              have HB3 := Lib.hid (((HB.out.trans (hs.bel.mono HB.out.size)).setCell (p := ⟨pb, 0, none⟩) hwp (.int .u64 (p1 : Nat))).setCell (p := ⟨pb, 1, none⟩) hwp (.string N))
              have HOW := Lib.hid (And.intro hown hne1)
              have HLT : Hid (∀ y, (Value.slice a1 m c1').ownBlock = some y → y < pb ∧ w.heap.size ≤ y) := fun y e => by
                have := HO.out.lt _ e; omega
              clear hS hs hL hrp RF hne1 ho9 hown HX HO HB HPR HSP hwp hpb
              go_upto_region 16 with fail
              clear f0 f1 c0 c1
              generalize (w9.setCell ⟨pb, 0, none⟩ (.int .u64 (p1 : Nat))).setCell ⟨pb, 1, none⟩ (.string N) = w10 at *
              have HPB := Lib.hid HP3.out.lt
              have q0 : w10.cell? ⟨pb, 0, none⟩ = some (.int .u64 (p1 : Nat)) := by rw [HP3.out.cell]; rfl
              have q1 : w10.cell? ⟨pb, 1, none⟩ = some (.string N) := by rw [HP3.out.cell]; rfl
              have HPA := Lib.hid (HP3.out.alloc (.cells #[.int .u64 (p1 : Nat), .string N] 40))
              have HXA := Lib.hid (HX3.out.alloc (.cells #[.int .u64 (p1 : Nat), .string N] 40))
              have HOA := Lib.hid (HO3.out.alloc (.cells #[.int .u64 (p1 : Nat), .string N] 40))
              have HBA := Lib.hid (HB3.out.alloc HB3.out.size (.cells #[.int .u64 (p1 : Nat), .string N] 40))
              have HCA : Hid (∀ (q : Nat) u, [Value.int .u64 (p1 : Nat), .string N][q]? = some u → (w10.alloc (.cells #[.int .u64 (p1 : Nat), .string N] 40)).cell? ((⟨w10.heap.size, 0, none⟩ : Addr).add q) = some u) := fun q u hu => by
                rw [Addr.add_mid, Nat.zero_add, (Row.new w10 40 #[.int .u64 (p1 : Nat), .string N]).cell, List.getElem?_toArray]
                exact hu
              clear HP3 HX3 HO3 HB3
              go_upto_region 17 with fail
              go_wp2_with (at_builtin; refine wpList_append_lies _ rfl _ _ 36 rfl w.heap.size 40 i0 (.agg #[.int .u64 0, .string ⟨#[]⟩]) 2 24 Tryd.underlying36 hi0 hz0 hz1 hz2 rfl (by decide) _ _ _ rfl HOA.out ⟨w10.heap.size, 0, none⟩ 1 1 [.int .u64 (p1 : Nat), .string N] rfl rfl HCA.out (by intro u hu; simp at hu; rcases hu with rfl | rfl <;> rfl) (by decide) (by unfold maxLen; omega) (by omega) HBA.out.size _ rfl ?_; intro g2 cap2 w11 hown2 hgrow2 hwh2 hlt3)
              have hpb2 := HPB.out
              have hgp : pb ≠ g2 ∧ w.heap.size ≤ g2 := by
                rcases hwh2 with e | e
                · have := HLT.out _ e; omega
                · have h5 := HBA.out.size
                  subst e
                  have : (w10.alloc (.cells #[.int .u64 (p1 : Nat), .string N] 40)).heap.size = w10.heap.size + 1 := World.size_alloc _ _
                  omega
              have hge : eb ≠ g2 := fun e => own_ne (own_zeroR hown2) (HXA.out.grown hgrow2 (own_ne (own_zeroR HOA.out) HXA.out (by decide))) (by decide) (by rw [e]; rfl)
              have HNE : Hid (pb ≠ g2 ∧ eb ≠ g2 ∧ w.heap.size ≤ g2) := ⟨hgp.1, hge, hgp.2⟩
              have HP2 := Lib.hid (HPA.out.grown hgrow2 HOW.out.1)
              have HX2 := Lib.hid (HXA.out.grown hgrow2 (own_ne (own_zeroR HOA.out) HXA.out (by decide)))
              have HB2 := Lib.hid (HBA.out.grown hgrow2 HBA.out.size (fun y e => (HLT.out y e).2))
              have HPL : Hid (PS.length = m) := HM
              have HO2 : Hid (w11.ownsRow w.heap.size 40 2 (.slice (some ⟨g2, 0, none⟩) (m + 1) cap2) (m + 1) (cellsP (insL PS m (p1, N)))) := by
                have h5 := insL_end PS (p1, N)
                rw [HPL.out] at h5
                show World.ownsRow _ _ _ _ _ _ _
                rw [h5, cellsP_append]
                exact hown2
              obtain ⟨m1, hm1⟩ : ∃ m1, m1 = m + 1 := ⟨_, rfl⟩
              have HM1 : Hid (m1 = m + 1) := hm1
              rw [← hm1] at HO2 ⊢
              have HD2 : Hid (∀ y ∈ PS.drop m, ltPt (p1, N) y) := by
                show ∀ y ∈ _, _
                rw [List.drop_of_length_le (by rw [HPL.out]; exact Nat.le_refl _)]
                intro y hy; simp at hy
              have hmm : m < m1 := by omega
              clear hown2 hgrow2 hwh2 hlt3 hgp hge hpb2 HPA HXA HOA HBA HCA HOW HLT HPB q0 q1 hm1 HM
              go_wp2_with fail
              go_loopw [16] (fun x wr => ∃ (a : Nat) (X : Pt), a ≤ m ∧ x = .int .i64 (a : Int) ∧ Hid (wr.ownsRow w.heap.size 40 2 (.slice (some ⟨g2, 0, none⟩) m1 cap2) m1 (cellsP (insL PS a X))) ∧ Hid (Row wr pb 40 #[.int .u64 (p1 : Nat), .string N]) ∧ Hid (Row wr eb 51 #[.string N, .int .i64 V]) ∧ Hid (∀ y ∈ PS.drop a, ltPt (p1, N) y) ∧ Hid (Below w.heap.size w wr)) (fun x _ => (intOf x).toNat)
              case atStart => exact ⟨m, _, Nat.le_refl _, rfl, HO2, HP2, HX2, HD2, HB2⟩
              case round =>
                clear HO2 HP2 HX2 HD2 HB2
                rename_i wr0
                obtain ⟨a, X, ha, rfl, HO4, HP4, HX4, HD4, HB4⟩ := hrel
                have y0 : wr.cell? ⟨pb, 0, none⟩ = some (.int .u64 (p1 : Nat)) := by rw [HP4.out.cell]; rfl
                have y1 : wr.cell? ⟨pb, 1, none⟩ = some (.string N) := by rw [HP4.out.cell]; rfl
                by_cases h0 : a = 0
                · have g0 : ¬ (0 : Int) < (a : Int) := by omega
                  have g0n : ¬ 0 < a := by omega
                  have g0d : decide ((0 : Int) < (a : Int)) = false := decide_eq_false (by omega)
                  have g0e : decide (0 < a) = false := decide_eq_false (by omega)
                  have hdr := HD4.out
                  have htk : ∀ x ∈ PS.take a, ¬ ltPt (p1, N) x := by rw [h0]; intro x hx; simp at hx
                  clear h0
                  have HEQ := Lib.hid (HINS.out a hdr htk)
                  have a1' : (a : Int) < m1 := by omega
                  obtain ⟨e5, ⟨qx, hqx, x1, x2⟩, x3, x4, _⟩ := ownsRow_put2 (j := a) (p1, N) HO4.out (by rw [insL_len, HPL.out]; omega)
                  rw [insL_put _ _ _ _ (by rw [HPL.out]; omega), ← HEQ.out] at e5
                  have HO5 := Lib.hid e5
                  have HX5 : Hid (Row ((wr.setCell ⟨g2, a * 2, none⟩ (.int .u64 (p1 : Nat))).setCell ⟨g2, a * 2 + 1, none⟩ (.string N)) eb 51 #[.string N, .int .i64 V]) := (HX4.out.far (p := ⟨g2, a * 2, none⟩) HNE.out.2.1 _).far (p := ⟨g2, a * 2 + 1, none⟩) HNE.out.2.1 _
                  have HB5 : ∀ n, Hid (Below w.heap.size w (((wr.drewN n).setCell ⟨g2, a * 2, none⟩ (.int .u64 (p1 : Nat))).setCell ⟨g2, a * 2 + 1, none⟩ (.string N))) := fun n => ((HB4.out.trans (⟨rfl, rfl, rfl, Nat.le_refl _, fun _ _ => rfl⟩ : Below w.heap.size wr (wr.drewN n))).setCell (p := ⟨g2, a * 2, none⟩) HNE.out.2.2 (.int .u64 (p1 : Nat))).setCell (p := ⟨g2, a * 2 + 1, none⟩) HNE.out.2.2 (.string N)
                  have HL5 : Hid ((srtP (ps0 ++ (ptsE k p G (N, (U : Int))).take (i + 1))).length = m1) := by
                    show _ = _
                    rw [HEQ.out, insL_len, HPL.out, HM1.out]
                  clear e5 hqx hdr htk HO4 HX4 HB4 HD4 HP4
                  go_wp2_with fail
                  go_quiet (fail)
                  go_wp2_with fail
                  go_roundw
                  case rel =>
                    refine ⟨i + 1, m1, _, _, hlt2, rfl, by go_num, ?_, HL5, HO5, HB5 _⟩
                    rw [← HVE.out]; exact HX5
                  case measure => simp [intOf]; omega
                · obtain ⟨b, hb⟩ : ∃ b, a = b + 1 := ⟨a - 1, by omega⟩
                  have g0 : (0 : Int) < (a : Int) := by omega
                  have g0n : 0 < a := by omega
                  have g0d : decide ((0 : Int) < (a : Int)) = true := decide_eq_true (by omega)
                  have g0e : decide (0 < a) = true := decide_eq_true (by omega)
                  have e1 : (a : Int) - 1 = (b : Int) := by omega
                  have b1 : (b : Int) < m1 := by omega
                  have b0 : (0 : Int) ≤ (b : Int) := by omega
                  have hbl : b < PS.length := by rw [HPL.out]; omega
                  obtain ⟨_, ⟨q, hq, k1, k2⟩, _, _, _⟩ := ownsRow_put2 (j := b) (p1, N) HO4.out (by rw [insL_len]; omega)
                  rw [hb, insL_low PS b X hbl] at hq
                  have HQ := Lib.hid hq
                  have hq2 : PS[b]'hbl = q := (List.getElem?_eq_some_iff.1 hq).2
                  have HAB := Lib.hid hb
                  have HAM := Lib.hid ha
                  obtain ⟨qv, qn⟩ := q
                  simp only at k1 k2
                  clear hq h0
                  by_cases hlo : ltPt (p1, N) (qv, qn)
                  · have HD5 : Hid (∀ y ∈ PS.drop b, ltPt (p1, N) y) := drop_down hbl (by rw [hq2]; exact hlo) (by rw [← hb]; exact HD4.out)
                    obtain ⟨e5, ⟨qx, hqx, x1, x2⟩, x3, x4, _⟩ := ownsRow_put2 (j := a) (qv, qn) HO4.out (by rw [insL_len, HPL.out]; omega)
                    have h6 := insL_down PS b X hbl
                    rw [hq2, ← hb] at h6
                    rw [h6] at e5
                    have HO5 := Lib.hid e5
                    have HP5 : Hid (Row ((wr.setCell ⟨g2, a * 2, none⟩ (.int .u64 (qv : Nat))).setCell ⟨g2, a * 2 + 1, none⟩ (.string qn)) pb 40 #[.int .u64 (p1 : Nat), .string N]) := (HP4.out.far (p := ⟨g2, a * 2, none⟩) HNE.out.1 _).far (p := ⟨g2, a * 2 + 1, none⟩) HNE.out.1 _
                    have HX5 : Hid (Row ((wr.setCell ⟨g2, a * 2, none⟩ (.int .u64 (qv : Nat))).setCell ⟨g2, a * 2 + 1, none⟩ (.string qn)) eb 51 #[.string N, .int .i64 V]) := (HX4.out.far (p := ⟨g2, a * 2, none⟩) HNE.out.2.1 _).far (p := ⟨g2, a * 2 + 1, none⟩) HNE.out.2.1 _
                    have HB5 : ∀ n, Hid (Below w.heap.size w (((wr.drewN n).setCell ⟨g2, a * 2, none⟩ (.int .u64 (qv : Nat))).setCell ⟨g2, a * 2 + 1, none⟩ (.string qn))) := fun n => ((HB4.out.trans (⟨rfl, rfl, rfl, Nat.le_refl _, fun _ _ => rfl⟩ : Below w.heap.size wr (wr.drewN n))).setCell (p := ⟨g2, a * 2, none⟩) HNE.out.2.2 (.int .u64 (qv : Nat))).setCell (p := ⟨g2, a * 2 + 1, none⟩) HNE.out.2.2 (.string qn)
                    have a1' : (a : Int) < m1 := by omega
                    clear e5 hqx h6 hq2 HO4 HP4 HX4 HD4 HB4 hb
                    by_cases hgt : qv > p1
                    · have g1 : (p1 : Int) < (qv : Int) := by omega
                      have g1n : p1 < qv := by omega
                      have g1d : decide ((p1 : Int) < (qv : Int)) = true := decide_eq_true (by omega)
                      have g1e : decide (p1 < qv) = true := decide_eq_true (by omega)
                      clear hlo hgt
                      go_wp2_with fail
                      go_quiet (fail)
                      go_wp2_with fail
                      go_roundw
                      case rel => exact ⟨b, (_, _), by have h7 := HAB.out; have h8 := HAM.out; omega, rfl, HO5, HP5, HX5, HD5, HB5 _⟩
                      case measure => have := HAB.out; simp [intOf]; omega
                    · have hqe : qv = p1 ∧ nmB N < nmB qn := by
                        unfold ltPt at hlo
                        rcases hlo with h | ⟨h, h2⟩
                        · exact absurd h hgt
                        · exact ⟨h.symm, h2⟩
                      obtain ⟨rfl, hnn⟩ := hqe
                      have g1 : ¬ (qv : Int) < (qv : Int) := by omega
                      have g1n : ¬ qv < qv := by omega
                      have g1d : decide ((qv : Int) < (qv : Int)) = false := decide_eq_false (by omega)
                      have g1e : decide (qv < qv) = false := decide_eq_false (by omega)
                      have g2' : Op.bytesLess qn.toList N.toList = false := less_false (fun h => List.lt_irrefl _ (List.lt_trans h hnn))
                      have g3' : (qn.toList == N.toList) = false := by rw [same_eq]; exact decide_eq_false (fun h => List.lt_irrefl (nmB N) (by rw [h] at hnn; exact hnn))
                      clear hlo hgt hnn
                      go_wp2_with fail
                      go_quiet (fail)
                      go_wp2_with fail
                      go_roundw
                      case rel => exact ⟨b, (_, _), by have h7 := HAB.out; have h8 := HAM.out; omega, rfl, HO5, HP5, HX5, HD5, HB5 _⟩
                      case measure => have := HAB.out; simp [intOf]; omega
                  · have hdr := HD4.out
                    have htk : ∀ x ∈ PS.take a, ¬ ltPt (p1, N) x := by rw [hb]; exact HLOW.out b _ HQ.out hlo
                    by_cases hqe : qv = p1
                    · have hnn : ¬ nmB N < nmB qn := fun h => hlo (.inr ⟨hqe.symm, h⟩)
                      subst hqe
                      have g1 : ¬ (qv : Int) < (qv : Int) := by omega
                      have g1n : ¬ qv < qv := by omega
                      have g1d : decide ((qv : Int) < (qv : Int)) = false := decide_eq_false (by omega)
                      have g1e : decide (qv < qv) = false := decide_eq_false (by omega)
                      have hcs : (Op.bytesLess qn.toList N.toList = true ∧ (qn.toList == N.toList) = false) ∨ (Op.bytesLess qn.toList N.toList = false ∧ (qn.toList == N.toList) = true) := by
                        rw [less_eq, same_eq]
                        by_cases h1 : nmB qn = nmB N
                        · exact .inr ⟨decide_eq_false (by rw [h1]; exact List.lt_irrefl _), decide_eq_true h1⟩
                        · refine .inl ⟨decide_eq_true ?_, decide_eq_false h1⟩
                          exact Classical.byContradiction fun h2 => h1 (List.le_antisymm (List.not_lt.1 hnn) (List.not_lt.1 h2))
                      clear hlo hnn hq2 hb
                      rcases hcs with ⟨g2', g3'⟩ | ⟨g2', g3'⟩
                      all_goals
                        have HEQ := Lib.hid (HINS.out a hdr htk)
                        have a1' : (a : Int) < m1 := by omega
                        obtain ⟨e5, ⟨qx, hqx, x1, x2⟩, x3, x4, _⟩ := ownsRow_put2 (j := a) (qv, N) HO4.out (by rw [insL_len, HPL.out]; omega)
                        rw [insL_put _ _ _ _ (by rw [HPL.out]; omega), ← HEQ.out] at e5
                        have HO5 := Lib.hid e5
                        have HX5 : Hid (Row ((wr.setCell ⟨g2, a * 2, none⟩ (.int .u64 (qv : Nat))).setCell ⟨g2, a * 2 + 1, none⟩ (.string N)) eb 51 #[.string N, .int .i64 V]) := (HX4.out.far (p := ⟨g2, a * 2, none⟩) HNE.out.2.1 _).far (p := ⟨g2, a * 2 + 1, none⟩) HNE.out.2.1 _
                        have HB5 : ∀ n, Hid (Below w.heap.size w (((wr.drewN n).setCell ⟨g2, a * 2, none⟩ (.int .u64 (qv : Nat))).setCell ⟨g2, a * 2 + 1, none⟩ (.string N))) := fun n => ((HB4.out.trans (⟨rfl, rfl, rfl, Nat.le_refl _, fun _ _ => rfl⟩ : Below w.heap.size wr (wr.drewN n))).setCell (p := ⟨g2, a * 2, none⟩) HNE.out.2.2 (.int .u64 (qv : Nat))).setCell (p := ⟨g2, a * 2 + 1, none⟩) HNE.out.2.2 (.string N)
                        have HL5 : Hid ((srtP (ps0 ++ (ptsE k p G (N, (U : Int))).take (i + 1))).length = m1) := by
                          show _ = _
                          rw [HEQ.out, insL_len, HPL.out, HM1.out]
                        clear e5 hqx hdr htk HO4 HX4 HB4 HD4 HP4
                        go_wp2_with fail
                        go_quiet (fail)
                        go_wp2_with fail
                        go_roundw
                        case rel =>
                          refine ⟨i + 1, m1, _, _, hlt2, rfl, by go_num, ?_, HL5, HO5, HB5 _⟩
                          rw [← HVE.out]; exact HX5
                        case measure => simp [intOf]; omega
                    · have hng : ¬ qv > p1 := fun h => hlo (.inl h)
                      have g1 : ¬ (p1 : Int) < (qv : Int) := by omega
                      have g1n : ¬ p1 < qv := by omega
                      have g1d : decide ((p1 : Int) < (qv : Int)) = false := decide_eq_false (by omega)
                      have g1e : decide (p1 < qv) = false := decide_eq_false (by omega)
                      have g2' : decide ((qv : Int) = (p1 : Int)) = false := decide_eq_false (by omega)
                      have g2'n : decide (qv = p1) = false := decide_eq_false (by omega)
                      have g2'e : (qv == p1) = false := by rw [beq_eq_false_iff_ne]; omega
                      have g3' : ((qv : Int) == (p1 : Int)) = false := by rw [beq_eq_false_iff_ne]; omega
                      clear hlo hng hqe hq2 hb
                      have HEQ := Lib.hid (HINS.out a hdr htk)
                      have a1' : (a : Int) < m1 := by omega
                      obtain ⟨e5, ⟨qx, hqx, x1, x2⟩, x3, x4, _⟩ := ownsRow_put2 (j := a) (p1, N) HO4.out (by rw [insL_len, HPL.out]; omega)
                      rw [insL_put _ _ _ _ (by rw [HPL.out]; omega), ← HEQ.out] at e5
                      have HO5 := Lib.hid e5
                      have HX5 : Hid (Row ((wr.setCell ⟨g2, a * 2, none⟩ (.int .u64 (p1 : Nat))).setCell ⟨g2, a * 2 + 1, none⟩ (.string N)) eb 51 #[.string N, .int .i64 V]) := (HX4.out.far (p := ⟨g2, a * 2, none⟩) HNE.out.2.1 _).far (p := ⟨g2, a * 2 + 1, none⟩) HNE.out.2.1 _
                      have HB5 : ∀ n, Hid (Below w.heap.size w (((wr.drewN n).setCell ⟨g2, a * 2, none⟩ (.int .u64 (p1 : Nat))).setCell ⟨g2, a * 2 + 1, none⟩ (.string N))) := fun n => ((HB4.out.trans (⟨rfl, rfl, rfl, Nat.le_refl _, fun _ _ => rfl⟩ : Below w.heap.size wr (wr.drewN n))).setCell (p := ⟨g2, a * 2, none⟩) HNE.out.2.2 (.int .u64 (p1 : Nat))).setCell (p := ⟨g2, a * 2 + 1, none⟩) HNE.out.2.2 (.string N)
                      have HL5 : Hid ((srtP (ps0 ++ (ptsE k p G (N, (U : Int))).take (i + 1))).length = m1) := by
                        show _ = _
                        rw [HEQ.out, insL_len, HPL.out, HM1.out]
                      clear e5 hqx hdr htk HO4 HX4 HB4 HD4 HP4
                      go_wp2_with fail
                      go_quiet (fail)
                      go_wp2_with fail
                      go_roundw
                      case rel =>
                        refine ⟨i + 1, m1, _, _, hlt2, rfl, by go_num, ?_, HL5, HO5, HB5 _⟩
                        rw [← HVE.out]; exact HX5
                      case measure => simp [intOf]; omega
            · obtain rfl : i = cn := by omega
              have hne : ¬ (i : Int) < i := by omega
              have HN9 : Hid (wr.ownsRow w.heap.size 40 2 (.slice a1 m c1') m (cellsP (srtP (ptsL k p G (es.take (j + 1)))))) := by
                have := HO.out
                rw [List.take_of_length_le (by rw [HEL.out]; exact Nat.le_refl _)] at this
                show World.ownsRow _ _ _ _ _ _ _
                rw [HST.out]; exact this
              have HM9 : Hid ((srtP (ptsL k p G (es.take (j + 1)))).length = m) := by
                have := HM.out
                rw [List.take_of_length_le (by rw [HEL.out]; exact Nat.le_refl _)] at this
                show _ = _
                rw [HST.out]; exact this
              go_wp2_with fail
              go_roundw
              case rel => exact ⟨j + 1, m, _, _, hlt, rfl, by go_num, HM9, HN9, HB⟩
              case measure => simp [intOf]; omega
        · obtain rfl : j = es.length := by omega
          have hne : ¬ (es.length : Int) < es.length := by omega
          have ho := HO.out
          have hm := HM.out
          rw [List.take_length] at ho hm
          subst hm
          have HPT := Lib.hid (own_pts ho)
          clear ho
          go_wp2_with fail
          go_ret
          exact ⟨_, _, rfl, HPT.out, HB.out⟩
end Go.Proofs.YtklfpnnnoaaiaaaDoor

/- stewardlaw19.RingBuilds (written by genlawrb.py). -/
namespace Go.Proofs.YtklfpnnnoaaiaaaDoor
open Go.RowKit

/-- A ring was built. -/
def RinR (P : List Pt) (n : Nat) (p : Value) (w : World) : Prop := ∃ rb, p = .pointer (some ⟨rb, 0, none⟩) ∧ RingAt w rb P n
theorem RinR.below {P : List Pt} {n : Nat} (p : Value) (w w' : World) (h : RinR P n p w) (hb : Below w.heap.size w w') : RinR P n p w' := by
  obtain ⟨rb, h1, h2⟩ := h
  exact ⟨rb, h1, h2.below hb⟩
/-- The tables. -/
def IniP (w : World) : Prop := Ini w ∧ Pow w
theorem IniP.below {w w' : World} (h : IniP w) (hb : Below w.heap.size w w') : IniP w' := ⟨h.1.below hb, h.2.below hb⟩
theorem and15R (x : Int) : ∃ k : Nat, k ≤ 15 ∧ bits .and .i64 x 15 = (k : Int) := by
  have h : (BitVec.ofInt 64 x &&& BitVec.ofInt 64 15).toNat ≤ 15 := by
    rw [BitVec.toNat_and]
    exact Nat.le_trans Nat.and_le_right (by decide)
  refine ⟨(BitVec.ofInt 64 x &&& BitVec.ofInt 64 15).toNat, h, ?_⟩
  show IntKind.i64.wrap (((BitVec.ofInt 64 x &&& BitVec.ofInt 64 15).toNat : Nat) : Int) = _
  exact IntWalk.i64_in _ (by omega)
theorem ptAt_nat {P : List Pt} {j : Nat} (h : j < P.length) : ptAt P (j : Int) = P[j] := by
  unfold ptAt
  rw [if_neg (by omega), Int.toNat_natCast, List.getD_eq_getElem?_getD, List.getElem?_eq_getElem h, Option.getD_some]
theorem ptAt_end (P : List Pt) : ptAt P (P.length : Int) = (0, ⟨#[]⟩) := by unfold ptAt; rw [if_pos (.inr (Int.le_refl _))]
end Go.Proofs.YtklfpnnnoaaiaaaDoor

/- the reference's From and Walk over a ring. -/
namespace Go.Proofs.YtklfpnnnoaaiaaaDoor
open Go.RowKit

/-- What From answers. -/
def FromP (ps : List Pt) (x : Nat) (w : World) (e : Ending) (w' : World) : Prop :=
  ∃ st r : Nat, LowAt ps x st ∧ r = st % ps.length ∧ e = .returned (.int .i64 (r : Int)) ∧ Below w.heap.size w w'
set_option maxRecDepth 100000 in
set_option maxHeartbeats 2000000 in
theorem from33 (ps : List Pt) (hr : Rise ps) (hm : ps.length ≤ 100000) (x : Nat) (a : Option Addr) (c : Nat) (w : World) (hp : PtsAt w a c ps) :
    Calls Tryd.prog 12 #[.slice a ps.length c, .int .u64 (x : Nat)] w (FromP ps x w) := by
  have HRI := Lib.hid hr
  have HP := Lib.hid hp
  have HB0 := Lib.hid (Below.refl w.heap.size w)
  clear hp hr
  go_enter Tryd.func12, Tryd.ntmps12
  go_wp2_with fail
  go_loopw [9] (fun i wr => ∃ j : Nat, j ≤ ps.length ∧ i = .int .i64 (j : Int) ∧ Hid (∀ i p, i < j → ps[i]? = some p → p.1 < x) ∧ Hid (Below w.heap.size w wr)) (fun i _ => ps.length - (intOf i).toNat)
  case atStart => exact ⟨0, Nat.zero_le _, rfl, (fun i p h => absurd h (by omega)), HB0⟩
  case round =>
    clear HB0
    obtain ⟨j, hj, rfl, HL, HB⟩ := hrel
    by_cases hlt : j < ps.length
    · obtain h0 | ⟨bk, o, rfl, hbk, hc, hcell⟩ := HP.out.below HB.out
      · rw [h0] at hlt; simp at hlt
      obtain ⟨c1, c2⟩ := hcell j _ (List.getElem?_eq_getElem hlt)
      have j1 : (j : Int) < ps.length := by omega
      have HG := Lib.hid (List.getElem?_eq_getElem hlt)
      generalize ps[j] = q at *
      obtain ⟨v, N⟩ := q
      simp only at c1 c2
      have HBa := Lib.hid (HB.out.alloc HB.out.size (.cells #[.int .u64 (v : Nat), .string N] 40))
      have HR := Lib.hid (Row.new wr 40 #[.int .u64 (v : Nat), .string N])
      clear hcell
      by_cases hge : x ≤ v
      · have g1 : (x : Int) ≤ (v : Int) := by omega
        have g2 : (v : Int) ≥ (x : Int) := by omega
        have HLA : Hid (LowAt ps x j) := ⟨hj, fun i p hp hi => HL.out i p hi hp, fun i p hp hi => Nat.le_trans hge (HRI.out j i _ p HG.out hp hi)⟩
        have hmod : j % ps.length = j := Nat.mod_eq_of_lt hlt
        go_wp2_with fail
        go_ret
        unfold FromP
        exact ⟨j, j, HLA.out, hmod.symm, rfl, HBa.out⟩
      · have g1 : ¬ (x : Int) ≤ (v : Int) := by omega
        have g2 : ¬ (v : Int) ≥ (x : Int) := by omega
        have HL2 : Hid (∀ i p, i < j + 1 → ps[i]? = some p → p.1 < x) := fun i p hi hp => by
          rcases Nat.lt_or_ge i j with h | h
          · exact HL.out i p h hp
          · obtain rfl : i = j := by omega
            rw [HG.out] at hp
            obtain rfl := Option.some.inj hp
            omega
        clear hge
        go_wp2_with fail
        go_roundw
        case rel => exact ⟨j + 1, hlt, by go_num, HL2, HBa⟩
        case measure => simp [intOf]; omega
    · obtain rfl : j = ps.length := by omega
      have hne : ¬ (ps.length : Int) < ps.length := by omega
      have HLA : Hid (LowAt ps x ps.length) := ⟨Nat.le_refl _, fun i p hp hi => HL.out i p hi hp, fun i p hp hi => by have := (List.getElem?_eq_some_iff.1 hp).1; omega⟩
      have hmod : ps.length % ps.length = 0 := Nat.mod_self _
      go_wp2_with fail
      go_ret
      unfold FromP
      exact ⟨ps.length, 0, HLA.out, hmod.symm, rfl, HB.out⟩
/-- The names that have occurred after so many points. -/
def nmW (ps : List Pt) (st : Nat) : Nat → List ByteArray
  | 0 => []
  | j + 1 => if inS (nmW ps st j) (ps.getD ((st + j) % ps.length) (0, ⟨#[]⟩)).2 then nmW ps st j else nmW ps st j ++ [(ps.getD ((st + j) % ps.length) (0, ⟨#[]⟩)).2]
theorem nmW_le (ps : List Pt) (st : Nat) : ∀ j, (nmW ps st j).length ≤ j
  | 0 => Nat.le_refl _
  | j + 1 => by
    have := nmW_le ps st j
    unfold nmW
    split
    · omega
    · rw [List.length_append, List.length_singleton]; omega
theorem nmW_mod (ps : List Pt) (st : Nat) : ∀ j, nmW ps (st % ps.length) j = nmW ps st j
  | 0 => rfl
  | j + 1 => by
    have h : (st % ps.length + j) % ps.length = (st + j) % ps.length := Nat.mod_add_mod _ _ _
    unfold nmW
    rw [nmW_mod ps st j, h]
theorem nmW_yes {ps : List Pt} {st j v : Nat} {N : ByteArray} (hN : ps[(st + j) % ps.length]? = some (v, N)) (h : inS (nmW ps st j) N = true) : nmW ps st (j + 1) = nmW ps st j := by
  rw [nmW, List.getD_eq_getElem?_getD, hN]
  exact if_pos h
theorem nmW_no {ps : List Pt} {st j v : Nat} {N : ByteArray} (hN : ps[(st + j) % ps.length]? = some (v, N)) (h : inS (nmW ps st j) N = false) : nmW ps st (j + 1) = nmW ps st j ++ [N] := by
  rw [nmW, List.getD_eq_getElem?_getD, hN]
  exact if_neg (by rw [show inS (nmW ps st j) ((some (v, N)).getD (0, ⟨#[]⟩)).2 = inS (nmW ps st j) N from rfl, h]; exact Bool.false_ne_true)
/-- What Walk answers. -/
def WalkP (ps : List Pt) (x : Nat) (w : World) (e : Ending) (w' : World) : Prop :=
  ∃ st a' c', LowAt ps x st ∧ e = .returned (.slice a' (nmW ps st ps.length).length c') ∧ IsStrs w' a' c' (nmW ps st ps.length) ∧ Below w.heap.size w w'
set_option maxRecDepth 100000 in
set_option maxHeartbeats 4000000 in
theorem refWalk36 (ps : List Pt) (hr : Rise ps) (hm : ps.length ≤ 100000) (x : Nat) (a : Option Addr) (c : Nat) (w : World) (hp : PtsAt w a c ps) :
    Calls Tryd.prog 16 #[.slice a ps.length c, .int .u64 (x : Nat)] w (WalkP ps x w) := by
  obtain ⟨i0, hi, hz0, hz1, hz2⟩ := info_parts infoSt
  have HP := Lib.hid hp
  have O0 : Hid ((w.alloc (.cells #[] 9)).ownsRow w.heap.size 9 1 (.slice (some ⟨w.heap.size, 0, none⟩) 0 0) 0 []) := World.ownsRow_lit w #[] 0 (Nat.le_refl _) (by decide) (by simp)
  have L0 := Lib.hid (below_alloc w (.cells #[] 9))
  have HF := Lib.hid (from33 ps hr hm x a c _ (hp.below (below_alloc w (.cells #[] 9))))
  clear hp
  go_enter Tryd.func16, Tryd.ntmps16
  go_wp2_with (go_at_call 12; refine HF.out.mono ?_; rintro e w1 ⟨st0, st, hst0, hst, rfl, hB1⟩; have HST := Lib.hid hst0; have HSE := Lib.hid hst; have HW1 := Lib.hid (ownB_keepR O0.out hB1); have HL1 := Lib.hid (L0.out.trans (hB1.mono L0.out.size)); clear hst0 hst hB1)
  clear HF O0 L0
  go_loopw [5, 18] (fun v i wr => ∃ (j : Nat), j ≤ ps.length ∧ i = .int .i64 (j : Int) ∧ Hid (wr.ownsRow w.heap.size 9 1 v (nmW ps st j).length ((nmW ps st j).map Value.string)) ∧ Hid (Below w.heap.size w wr)) (fun _ i _ => ps.length - (intOf i).toNat)
  case atStart => exact ⟨0, Nat.zero_le _, rfl, HW1, HL1⟩
  case round =>
    clear HW1 HL1
    obtain ⟨j, hj, rfl, HO, HB⟩ := hrel
    obtain ⟨wv, rfl⟩ : ∃ wv, wv = wr := ⟨wr, rfl⟩
    by_cases hlt : j < ps.length
    · obtain ⟨av, cv, rfl⟩ := own_slice HO.out
      have HOS := Lib.hid (isStrs_ownM (ns := nmW ps st j) HO.out).2
      have hm0 : 0 < ps.length := by omega
      have hsl : st < ps.length := by rw [HSE.out]; exact Nat.mod_lt _ hm0
      have hlm : (st + j) % ps.length < ps.length := Nat.mod_lt _ hm0
      obtain h0 | ⟨bk, o, rfl, hbk, hc, hcell⟩ := HP.out.below HB.out
      · rw [h0] at hm0; simp at hm0
      obtain ⟨⟨v, N⟩, hN⟩ : ∃ N, ps[(st + j) % ps.length]? = some N := ⟨_, List.getElem?_eq_getElem hlm⟩
      have cN := (hcell _ _ hN).2
      simp only at cN
      have HY := Lib.hid (fun h1 => nmW_no hN h1)
      have HNO := Lib.hid (fun h1 => nmW_yes hN h1)
      have hle := nmW_le ps st j
      have hcs : ((st + j : Nat) : Int) = (st : Int) + (j : Int) := by omega
      have hw1 := wrapS (st + j) (by omega)
      have ht := tmodM st j ps.length
      have hw2 := wrapS ((st + j) % ps.length) (by omega)
      rw [hcs] at hw1 ht
      have pz : ¬ ((ps.length : Nat) : Int) = 0 := by omega
      have pz2 : ¬ ps.length = 0 := by omega
      have r1 : (((st + j) % ps.length : Nat) : Int) < ps.length := by omega
      have j1 : (j : Int) < ps.length := by omega
      clear hcs hcell hN
      generalize hwn : nmW ps st (j + 1) = wn at *
      have HWN := Lib.hid hwn
      clear hwn
      generalize nmW ps st j = out at *
      generalize (st + j) % ps.length = r at *
      go_wp2_with fail
      go_loopw [9, 33] (fun h i w3 => ∃ (q : Nat), q ≤ out.length ∧ h = .bool (inS (out.take q) N) ∧ i = .int .i64 (q : Int) ∧ w3 = wv) (fun _ i _ => out.length - (intOf i).toNat)
      case atStart => exact ⟨0, Nat.zero_le _, rfl, rfl, rfl⟩
      case round =>
        obtain ⟨q, hq, rfl, rfl, rfl⟩ := hrel
        by_cases hql : q < out.length
        · obtain h0 | ⟨bk2, o2, rfl, hbk2, hc2, hcell2⟩ := HOS.out
          · rw [h0] at hql; simp at hql
          have cX := hcell2 q out[q] (List.getElem?_eq_getElem hql)
          have HT := Lib.hid (inS_take hql N)
          have HE := Lib.hid (strEqM out[q] N)
          have q1 : (q : Int) < out.length := by omega
          generalize out[q] = X at *
          clear hcell2
          cases hh : inS (out.take q) N with
          | true =>
            have HR : Hid (inS (out.take (q + 1)) N = true) := by show _ = _; rw [HT.out, hh]; rfl
            clear hh
            go_wp2_with fail
            go_roundw
            case rel => exact ⟨q + 1, hql, by rw [HR.out], by go_num, trivial⟩
            case measure => simp [intOf]; omega
          | false =>
            have HR : Hid (inS (out.take (q + 1)) N = (X.toList == N.toList)) := by show _ = _; rw [HT.out, hh, HE.out]; rfl
            clear hh
            go_wp2_with fail
            go_roundw
            case rel => exact ⟨q + 1, hql, by rw [HR.out], by go_num, trivial⟩
            case measure => simp [intOf]; omega
        · obtain rfl : q = out.length := by omega
          have hne : ¬ (out.length : Int) < out.length := by omega
          rw [List.take_length]
          cases hh : inS out N with
          | true =>
            have HW := Lib.hid (HNO.out hh)
            clear hh
            go_wp2_with fail
            go_roundw
            case rel => exact ⟨j + 1, hlt, by go_num, by rw [HWN.out, HW.out]; exact HO, HB⟩
            case measure => simp [intOf]; omega
          | false =>
            have HW := Lib.hid (HY.out hh)
            have HOa := Lib.hid (HO.out.alloc (.cells #[.string N] 9))
            have HBa := Lib.hid (HB.out.alloc HB.out.size (.cells #[.string N] 9))
            have HNW := Lib.hid (cells_str wr N 9)
            have HON : Hid (∀ u ∈ [Value.string N], u.oneCell' = true) := by intro u hu; simp at hu; subst hu; rfl
            clear hh
            go_wp2_with (at_builtin; refine wpList_append_own _ rfl _ _ 44 rfl w.heap.size 9 i0 (.string ⟨#[]⟩) 1 16 Tryd.underlying44 hi hz0 hz1 hz2 rfl (by decide) _ _ _ rfl HOa.out ⟨wr.heap.size, 0, none⟩ 1 1 [.string N] rfl rfl HNW.out HON.out (by unfold maxLen; omega) (by omega) HBa.out.size ?_; intro v' w10 hown' hgrow _)
            have HB10 := Lib.hid (HBa.out.grown hgrow HBa.out.size (fun q e => (HOa.out.lt q e).1))
            have HO10 := Lib.hid hown'
            clear hown' hgrow
            go_roundw
            case rel =>
              have e1 : (out ++ [N]).length = out.length + 1 := by simp
              refine ⟨j + 1, hlt, by go_num, ?_, HB10⟩
              rw [HWN.out, HW.out, e1, List.map_append]
              exact HO10
            case measure => simp [intOf]; omega
    · obtain rfl : j = ps.length := by omega
      have hne : ¬ (ps.length : Int) < ps.length := by omega
      obtain ⟨av, cv, rfl⟩ := own_slice HO.out
      have HNE : Hid (nmW ps st ps.length = nmW ps st0 ps.length) := by show _ = _; rw [HSE.out]; exact nmW_mod ps st0 _
      go_wp2_with fail
      go_ret
      unfold WalkP
      refine ⟨st0, av, cv, HST.out, ?_, ?_, HB.out⟩
      · rw [← HNE.out]; rfl
      · rw [← HNE.out]; exact (isStrs_ownM (ns := nmW ps st ps.length) HO.out).2
end Go.Proofs.YtklfpnnnoaaiaaaDoor

/- ring: Walk. -/
namespace Go.Proofs.YtklfpnnnoaaiaaaDoor
open Go.RowKit Go.Maps

attribute [local go_sem] Oper.semAt_some

/-- The names of some points, each once. -/
def nmL (ps : List Pt) : List ByteArray := ps.foldl (fun l p => if inS l p.2 then l else l ++ [p.2]) []
theorem nmL_snoc (ps : List Pt) (p : Pt) : nmL (ps ++ [p]) = if inS (nmL ps) p.2 then nmL ps else nmL ps ++ [p.2] := by
  unfold nmL
  rw [List.foldl_append]; rfl
theorem nmL_old {ps : List Pt} {v : Nat} {N : ByteArray} (h : inS (nmL ps) N = true) : nmL (ps ++ [(v, N)]) = nmL ps := by rw [nmL_snoc]; exact if_pos h
theorem nmL_new {ps : List Pt} {v : Nat} {N : ByteArray} (h : inS (nmL ps) N = false) : nmL (ps ++ [(v, N)]) = nmL ps ++ [N] := by rw [nmL_snoc]; exact if_neg (by rw [h]; exact Bool.false_ne_true)
theorem nmL_len : ∀ (ps : List Pt), (nmL ps).length ≤ ps.length := by
  intro ps
  rw [← List.reverse_reverse ps]
  generalize ps.reverse = qs
  induction qs with
  | nil => exact Nat.le_refl _
  | cons q qs ih =>
    rw [List.reverse_cons, nmL_snoc]
    split
    · rw [List.length_append]; omega
    · rw [List.length_append, List.length_append]; simpa using ih
theorem setN_row {w : World} {b n k base m : Nat} {p : ByteArray → Bool} {e : TypeId} {sz : Nat} {v : Value} {xs : List Value} (h : SetN w b n k p) (ho : w.ownsRow base e sz v m xs) : v.ownBlock ≠ some b := by
  obtain ⟨D, ⟨es, clock, hm, F, hs, hD⟩, r⟩ := h
  obtain ⟨hl, ⟨rfl, _⟩ | ⟨g, cap, cur, rfl, hbg, hg, rr⟩⟩ := ho
  · intro e; cases e
  · intro e
    obtain rfl : g = b := by injection e
    rw [hg] at hm
    cases hm
theorem setN_own {β : Type} {B b : Nat} (hb : b < B) (n k : β → Nat) (p : β → ByteArray → Bool) : OwnFrom B (fun s W => SetN W b (n s) (k s) (p s)) := fun s W W' row hs hg hr =>
  hs.same (hg.block b hs.lt (fun e => by have := (hr b e.symm).1; omega))
section
variable (w : World) {F : Fence} {nF : Nat} {ops : Array Oper} {rest : List Oper} {o : Oper} {a : Act} {Q : Exit → Act → World → Prop}
theorem wplIn_seenN (hg : o.guard = none) (m x : Operand) (hop : o.op = Op.lookup 72 m x true) (b n k : Nat) (p : ByteArray → Bool)
    (hm : a.eval m = .map (some b)) (hown : SetN w b n k p) (s : ByteArray) (hx : a.eval x = .string s) (hs : s.size ≤ maxLen)
    (hK : wpListIn F nF Tryd.prog ops Q rest (a.put o.dst (.tuple #[.agg #[], .bool (p s)])) w) :
    wpListIn F nF Tryd.prog ops Q (o :: rest) a w := by
  obtain ⟨D, ho, r, _⟩ := hown
  rw [← r s] at hK
  exact wpListIn_lookup_own_unit w hg m x _ hop _ _ lawS Tryd.underlying72 (zeroU _) b n D hm ho _ _ hx (WideMaps.keyOf_string_mk Tryd.underlying9 hs) hK
theorem wplIn_markN (hg : o.guard = none) (m x v : Operand) (hop : o.op = Op.mapUpdate 72 m x v) (b n k : Nat) (p : ByteArray → Bool)
    (hm : a.eval m = .map (some b)) (hown : SetN w b n k p) (hn : n < maxLen) (s : ByteArray) (hx : a.eval x = .string s) (hv : a.eval v = .agg #[]) (hs : s.size ≤ maxLen)
    (hK : ∀ w', SetN w' b (n + 1) (if p s then k else k + 1) (fun y => p y || decide (s = y)) → w.grownBy w' (some b) → wpListIn F nF Tryd.prog ops Q rest (a.put o.dst undef) w') :
    wpListIn F nF Tryd.prog ops Q (o :: rest) a w := by
  obtain ⟨D, ho, r, hk⟩ := hown
  refine wpListIn_mapUpdate_own w hg m x v _ hop _ _ lawS Tryd.underlying72 unitElem b n D hm ho hn _ _ _ hx hv (WideMaps.keyOf_string_mk Tryd.underlying9 hs) _ [] unitElem_mk ?_
  intro w' ho' hg'
  refine hK w' ⟨_, ho', fun y => ?_, ?_⟩ hg'
  · by_cases h : y = s
    · subst h
      rw [has_put_same ho.isMap (by unfold WideAt.IsKeyLit; trivial)]
      simp
    · rw [has_put_other (key_ne h), r y]
      have : ¬ s = y := fun e => h e.symm
      simp [this]
  · rw [size_put (ho.tidy lawS), r s, hk]
end
/-- The names of some of a ring's points. -/
def nmS {ps : List Pt} (l : List { p : Pt // p ∈ ps }) : List ByteArray := nmL (l.map (·.1))
theorem nmS_old {ps : List Pt} {pre : List { p : Pt // p ∈ ps }} {v : Nat} {N : ByteArray} {hm : (v, N) ∈ ps} (h : inS (nmS pre) N = true) : nmS (pre ++ [⟨(v, N), hm⟩]) = nmS pre := by
  unfold nmS at *
  rw [List.map_append]; exact nmL_old h
theorem nmS_new {ps : List Pt} {pre : List { p : Pt // p ∈ ps }} {v : Nat} {N : ByteArray} {hm : (v, N) ∈ ps} (h : inS (nmS pre) N = false) : nmS (pre ++ [⟨(v, N), hm⟩]) = nmS pre ++ [N] := by
  unfold nmS at *
  rw [List.map_append]; exact nmL_new h
set_option maxRecDepth 100000 in
set_option maxHeartbeats 4000000 in
theorem walk35_in (n : Nat) (hn : 3 ≤ n) (rb nn : Nat) (ps : List Pt) (hl : ps.length ≤ 100000) (hz : ∀ p ∈ ps, p.2.size ≤ 1000) (hr : Rise ps) (x : Nat) (w : World) (hRg : RingAt w rb ps nn) :
    CallsIn Fence.wide n Tryd.prog 15 #[.pointer (some ⟨rb, 0, none⟩), .int .u64 (x : Nat)] w fun e w' => ∃ st l a c, LowAt ps x st ∧ (l = nmL (arL ps st) ∨ ∃ k, k ≤ ps.length ∧ l = nmL ((arL ps st).take k) ∧ l.length = nn) ∧ e = .returned (.slice a l.length c) ∧ IsStrs w' a c l ∧ Below w.heap.size w w' := by
  obtain ⟨i0, hi, hz0, hz1, hz2⟩ := info_parts infoSt
  have h1 : 1 ≤ n := by omega
  have hmm := run_makeMap_hint Tryd.underlying72
  obtain ⟨hrl, ra, rc, hr0, hr1, hpts⟩ := id hRg
  have HR1 := Lib.hid hr1
  have g2 : ((w.alloc (.cells #[.pointer (some ⟨rb, 0, none⟩)] 29)).alloc (.cells #[.slice none 0 0] 44)).cell? ⟨rb, 1, none⟩ = some (.int .i64 (nn : Nat)) := by
    have hb : Below w.heap.size w ((w.alloc (.cells #[.pointer (some ⟨rb, 0, none⟩)] 29)).alloc (.cells #[.slice none 0 0] 44)) := ((Below.refl _ w).alloc (Nat.le_refl _) _).alloc (by simp) _
    rw [(bcell hb).1 _ _ hrl]; exact hr1
  clear hr0 hr1 hpts
  refine callsIn_of_wp_marks Tryd.func15 rfl trivial ?_ rfl
  simp only [Tryd.ntmps15, List.size_toArray, List.length_cons, List.length_nil, Nat.reduceAdd, Nat.reduceSub, Array.replicate_succ, Array.replicate_zero, List.push_toArray, List.append_toArray, List.nil_append, List.cons_append]
  gi_wp2_with fail
  refine ⟨trivial, (around55 _ _ _ _).mono ?_⟩
  rintro e w' ⟨rfl, rfl⟩
  clear g2 hmm
  gi_wp2_with fail
  have bP0 := Boxed.new w 29 (.pointer (some ⟨rb, 0, none⟩))
  have bN0 := Boxed.new (w.alloc (.cells #[.pointer (some ⟨rb, 0, none⟩)] 29)) 44 (.slice none 0 0)
  have hS0 := SetN.new ((w.alloc (.cells #[.pointer (some ⟨rb, 0, none⟩)] 29)).alloc (.cells #[.slice none 0 0] 44))
  have bM0 := Boxed.new (((w.alloc (.cells #[.pointer (some ⟨rb, 0, none⟩)] 29)).alloc (.cells #[.slice none 0 0] 44)).alloc (.map #[] 0)) 72 (.map (some (w.heap.size + 1 + 1)))
  have bA0 := Boxed.new ((((w.alloc (.cells #[.pointer (some ⟨rb, 0, none⟩)] 29)).alloc (.cells #[.slice none 0 0] 44)).alloc (.map #[] 0)).alloc (.cells #[.map (some (w.heap.size + 1 + 1))] 72)) 29 (.pointer (some ⟨rb, 0, none⟩))
  have bB0 := Boxed.new (((((w.alloc (.cells #[.pointer (some ⟨rb, 0, none⟩)] 29)).alloc (.cells #[.slice none 0 0] 44)).alloc (.map #[] 0)).alloc (.cells #[.map (some (w.heap.size + 1 + 1))] 72)).alloc (.cells #[.pointer (some ⟨rb, 0, none⟩)] 29)) 23 (.int .u64 (x : Nat))
  simp only [World.size_alloc] at bN0 hS0 bM0 bA0 bB0
  have bP := ((((bP0.alloc (.cells #[.slice none 0 0] 44)).alloc (.map #[] 0)).alloc (.cells #[.map (some (w.heap.size + 1 + 1))] 72)).alloc (.cells #[.pointer (some ⟨rb, 0, none⟩)] 29)).alloc (.cells #[.int .u64 (x : Nat)] 23)
  have bN := (((bN0.alloc (.map #[] 0)).alloc (.cells #[.map (some (w.heap.size + 1 + 1))] 72)).alloc (.cells #[.pointer (some ⟨rb, 0, none⟩)] 29)).alloc (.cells #[.int .u64 (x : Nat)] 23)
  have hS := ((hS0.alloc (.cells #[.map (some (w.heap.size + 1 + 1))] 72)).alloc (.cells #[.pointer (some ⟨rb, 0, none⟩)] 29)).alloc (.cells #[.int .u64 (x : Nat)] 23)
  have bM := (bM0.alloc (.cells #[.pointer (some ⟨rb, 0, none⟩)] 29)).alloc (.cells #[.int .u64 (x : Nat)] 23)
  have bA := bA0.alloc (.cells #[.int .u64 (x : Nat)] 23)
  have hB0 : Below w.heap.size w ((((((w.alloc (.cells #[.pointer (some ⟨rb, 0, none⟩)] 29)).alloc (.cells #[.slice none 0 0] 44)).alloc (.map #[] 0)).alloc (.cells #[.map (some (w.heap.size + 1 + 1))] 72)).alloc (.cells #[.pointer (some ⟨rb, 0, none⟩)] 29)).alloc (.cells #[.int .u64 (x : Nat)] 23)) := by
    refine Below.alloc ?_ (by simp; omega) _
    refine Below.alloc ?_ (by simp; omega) _
    refine Below.alloc ?_ (by simp; omega) _
    refine Below.alloc ?_ (by simp; omega) _
    refine Below.alloc ?_ (by simp) _
    exact (Below.refl _ w).alloc (Nat.le_refl _) _
  have hsz : ((((((w.alloc (.cells #[.pointer (some ⟨rb, 0, none⟩)] 29)).alloc (.cells #[.slice none 0 0] 44)).alloc (.map #[] 0)).alloc (.cells #[.map (some (w.heap.size + 1 + 1))] 72)).alloc (.cells #[.pointer (some ⟨rb, 0, none⟩)] 29)).alloc (.cells #[.int .u64 (x : Nat)] 23)).heap.size = w.heap.size + 6 := by simp
  clear bP0 bN0 hS0 bM0 bA0
  generalize (((((w.alloc (.cells #[.pointer (some ⟨rb, 0, none⟩)] 29)).alloc (.cells #[.slice none 0 0] 44)).alloc (.map #[] 0)).alloc (.cells #[.map (some (w.heap.size + 1 + 1))] 72)).alloc (.cells #[.pointer (some ⟨rb, 0, none⟩)] 29)).alloc (.cells #[.int .u64 (x : Nat)] 23) = WS at *
  refine wpIn_rangeFunc_ownH rfl h1 (gf := 40) (lb := #[.pointer (some ⟨w.heap.size + 1 + 1 + 1 + 1, 0, none⟩), .pointer (some ⟨w.heap.size + 1 + 1 + 1 + 1 + 1, 0, none⟩)]) rfl trivial (enters_of Tryd.func40 (by kernel_rfl) rfl)
    (around_stopsS (n - 1) (by omega) (w.heap.size + 1 + 1 + 1 + 1) (w.heap.size + 1 + 1 + 1 + 1 + 1) rb nn ps hl hr x w hRg WS hB0 (by omega) (by omega) bA.cell bB0.cell) KpR.trans (kpR_b (by omega) (by omega)) (Below.refl _ _) (fun _ => rfl)
    (fun (pre : List { p : Pt // p ∈ ps }) W => ((∃ v, Boxed W (w.heap.size + 1) 44 v ∧ W.ownsRow w.heap.size 9 1 v (nmS pre).length ((nmS pre).map Value.string) ∧ True) ∧ (Boxed W w.heap.size 29 (.pointer (some ⟨rb, 0, none⟩)) ∧ Boxed W (w.heap.size + 1 + 1 + 1) 72 (.map (some (w.heap.size + 1 + 1))) ∧ Boxed W (w.heap.size + 1 + 1 + 1 + 1) 29 (.pointer (some ⟨rb, 0, none⟩)))) ∧ (SetN W (w.heap.size + 1 + 1) (nmS pre).length (nmS pre).length (inS (nmS pre)) ∧ Below w.heap.size w W))
    (fun c (pre : List { p : Pt // p ∈ ps }) W => (∃ v, Boxed W (w.heap.size + 1) 44 v ∧ W.ownsRow w.heap.size 9 1 v (nmS pre).length ((nmS pre).map Value.string) ∧ (c = .exit 0 ∧ (nmS pre).length = nn)) ∧ Below w.heap.size w W)
    (OwnFrom.and (OwnFrom.and (Own.from (holdsRow_own w.heap.size (w.heap.size + 1) 44 9 1 (fun (pre : List { p : Pt // p ∈ ps }) => (nmS pre).length) (fun (pre : List { p : Pt // p ∈ ps }) => (nmS pre).map Value.string) (fun _ _ => True)) _) (Own.from (fun s A B row hs hg hr => ⟨(boxed_own (β := Unit) w.heap.size _ (fun _ => .pointer (some ⟨rb, 0, none⟩))) () A B row hs.1 hg hr, (boxed_own (β := Unit) (w.heap.size + 1 + 1 + 1) _ (fun _ => .map (some (w.heap.size + 1 + 1)))) () A B row hs.2.1 hg hr, (boxed_own (β := Unit) (w.heap.size + 1 + 1 + 1 + 1) _ (fun _ => .pointer (some ⟨rb, 0, none⟩))) () A B row hs.2.2 hg hr⟩) _)) (OwnFrom.and (setN_own (by omega) _ _ _) (ownFrom_below (Nat.le_refl _) (by omega))))
    (fun c => OwnFrom.and (Own.from (holdsRow_own w.heap.size (w.heap.size + 1) 44 9 1 (fun (pre : List { p : Pt // p ∈ ps }) => (nmS pre).length) (fun (pre : List { p : Pt // p ∈ ps }) => (nmS pre).map Value.string) (fun pre _ => c = .exit 0 ∧ (nmS pre).length = nn)) _) (ownFrom_below (Nat.le_refl _) (by omega)))
    ⟨⟨⟨_, bN, World.ownsRow_nil _ _ _ _, trivial⟩, bP, bM, bA⟩, hS, hB0⟩
    (fun p a' W => ∃ Bx, w.heap.size + 5 ≤ Bx ∧ W.heap[Bx]? = some (.cells #[.int .u64 (p.1.1 : Nat), .string p.1.2] 62 (0, 0)) ∧ a' = { tmps := #[.pointer (some ⟨rb, 0, none⟩), .int .u64 (x : Nat), .pointer (some ⟨w.heap.size, 0, none⟩), undef, .slice none 0 0, .pointer (some ⟨w.heap.size + 1, 0, none⟩), .pointer (some ⟨w.heap.size + 1 + 1 + 1, 0, none⟩), .pointer (some ⟨Bx, 0, none⟩), undef, undef, .pointer (some ⟨rb, 0, none⟩), .pointer (some ⟨rb, 0, none⟩), .pointer (some ⟨rb, 1, none⟩), .int .i64 (nn : Nat), .map (some (w.heap.size + 1 + 1)), .pointer (some ⟨rb, 0, none⟩), .int .u64 (x : Nat), .func (.func 40) #[] #[.pointer (some ⟨w.heap.size + 1 + 1 + 1 + 1, 0, none⟩), .pointer (some ⟨w.heap.size + 1 + 1 + 1 + 1 + 1, 0, none⟩)], ptVal p.1, undef, undef, undef, undef, undef, undef, undef, undef, undef, undef, undef, undef, undef, undef, undef, undef, undef, undef, undef, undef, undef, undef, undef, undef, undef], defers := [] })
    (fun p a' => fun s A B row hs hg hr => by
      obtain ⟨Bx, h1, h2, h3⟩ := hs
      exact ⟨Bx, h1, (cells_own (β := Unit) Bx _ _).from _ () A B row h2 hg hr, h3⟩) ?assign ?body ?done ?stop
  case assign =>
    rintro l pre ⟨⟨v, N⟩, hmem⟩ W K ⟨⟨⟨u, hv, hrow, hzz⟩, hp, hmb, hb4⟩, hSN, hB⟩ hK
    dsimp only [ptVal]
    gi_wp2
    refine hK _ _ ((KeepsOthers.alloc _ _).from _) (KpR.of_below (below_alloc W _) hB.size hb4.lt) ⟨⟨⟨u, hv.alloc _, hrow.alloc _, hzz⟩, hp.alloc _, hmb.alloc _, hb4.alloc _⟩, hSN.alloc _, hB.alloc hB.size _⟩ ⟨W.heap.size, ?_, heap_alloc_new W _, rfl⟩
    have := hb4.lt
    omega
  case body =>
    rintro l pre ⟨⟨v, N⟩, hmem⟩ a' W hl2 ⟨r, hr2⟩ ⟨⟨⟨u, hv, hrow, hzz⟩, hp, hmb, hb4⟩, hSN, hB⟩ ⟨Bx, hBx, hbX, rfl⟩ hlt
    have cx1 : W.cell? ⟨Bx, 1, none⟩ = some (.string N) := by rw [cell_of_row W Bx 1 _ _ _ hbX]; rfl
    have HNZ : Hid (N.size ≤ 1000) := hz _ hmem
    have HL2 : Hid ((nmS pre).length ≤ 100000) := by
      have := nmL_len (pre.map (·.1))
      rw [List.length_map] at this
      exact Nat.le_trans this (by omega)
    have hvc := hv.cell
    have hmc := hmb.cell
    have hbxl : Bx < W.heap.size := (Array.getElem?_eq_some_iff.1 hbX).1
    cases hIN : inS (nmS pre) N with
    | true =>
      have HIN := Lib.hid hIN
      have HMO := Lib.hid (nmS_old (v := v) (hm := hmem) hIN)
      clear hIN hr2
      gi_wp2_with (first
        | (gi_at_lookup; refine wplIn_seenN _ rfl _ _ rfl (w.heap.size + 1 + 1) _ _ _ rfl hSN N rfl (by have := HNZ.out; unfold maxLen; omega) ?_; rw [HIN.out]))
      refine ⟨(KeepsOthers.alloc _ _).from _, KpR.of_below (below_alloc W _) hB.size hb4.lt, ?_⟩
      dsimp only
      rw [HMO.out]
      refine ⟨⟨⟨u, hv.alloc _, ?_⟩, hp.alloc _, hmb.alloc _, hb4.alloc _⟩, hSN.alloc _, hB.alloc hB.size _⟩
      first
        | exact hrow.alloc _
        | exact ⟨hrow.alloc _, trivial⟩
    | false =>
      have HIN := Lib.hid hIN
      have HMO := Lib.hid (nmS_new (v := v) (hm := hmem) hIN)
      clear hIN hr2
      have hW1 := hSN.alloc (.cells #[] 73)
      have hmc1 := (hmb.alloc (.cells #[] 73)).cell
      have cx1a : (W.alloc (.cells #[] 73)).cell? ⟨Bx, 1, none⟩ = some (.string N) := by rw [cell_of_row _ Bx 1 _ _ _ (((below_alloc W (.cells #[] 73)).block Bx hbxl).trans hbX)]; rfl
      obtain ⟨m, hm⟩ : ∃ m, m = (nmS pre).length := ⟨_, rfl⟩
      have HM := Lib.hid hm
      rw [← hm] at hrow hW1 hSN HL2
      clear hm
      by_cases hful : m + 1 = nn
      · have hq1 : (((m + 1 : Nat) : Int) == (nn : Int)) = true := by rw [beq_iff_eq]; omega
        have hq2 : (((m : Int) + 1) == (nn : Int)) = true := by rw [beq_iff_eq]; omega
        have HFU := Lib.hid hful
        clear hful
        gi_wp2_with (first
          | (gi_at_lookup; refine wplIn_seenN _ rfl _ _ rfl (w.heap.size + 1 + 1) _ _ _ rfl hSN N rfl (by have := HNZ.out; unfold maxLen; omega) ?_; rw [HIN.out])
          | (gi_at_mapUpdate; refine wplIn_markN _ rfl _ _ _ rfl (w.heap.size + 1 + 1) _ _ _ rfl hW1 (by have := HL2.out; unfold maxLen; omega) N rfl rfl (by have := HNZ.out; unfold maxLen; omega) ?_; intro w9 hm9 hg9; rw [HIN.out, if_neg Bool.false_ne_true, inS_step] at hm9; have hv9 := (hv.alloc (.cells #[] 73)).kept hg9 (fun e => by injection e with e; omega); have hp9 := (hp.alloc (.cells #[] 73)).kept hg9 (fun e => by injection e with e; omega); have hmb9 := (hmb.alloc (.cells #[] 73)).kept hg9 (fun e => by injection e with e; omega); have hb49 := (hb4.alloc (.cells #[] 73)).kept hg9 (fun e => by injection e with e; omega); have hr9 := (hrow.alloc (.cells #[] 73)).kept hg9 (.inr (setN_row hW1 (hrow.alloc (.cells #[] 73)))); have hB9 := (hB.alloc hB.size (.cells #[] 73)).grown hg9 (hB.alloc hB.size (.cells #[] 73)).size (fun q e => by injection e with e; omega); have cx9 : w9.cell? ⟨Bx, 1, none⟩ = some (.string N) := (by rw [cell_of_row w9 Bx 1 _ _ _ ((hg9.block Bx (by simp; omega) (by intro e; injection e with e; omega)).trans (((below_alloc W (.cells #[] 73)).block Bx hbxl).trans hbX))]; rfl); have hvc9 := hv9.cell; have hmc9 := hmb9.cell)
          | (gi_at_builtin; refine wpListIn_append_own _ rfl _ _ 44 rfl w.heap.size 9 i0 (.string ⟨#[]⟩) 1 16 Tryd.underlying44 hi hz0 hz1 hz2 rfl (by decide) _ _ _ rfl (hr9.alloc (.cells #[.string N] 9)) ⟨w9.heap.size, 0, none⟩ 1 1 [.string N] rfl rfl (cells_str w9 N 9) (by intro y hy; simp at hy; subst hy; rfl) (by have := HL2.out; unfold maxLen; omega) (by have := HL2.out; omega) (by have := hB9.size; simp; omega) ?_; intro v' w10 hown' hgrow _; obtain ⟨g', cap', rfl⟩ := ownsRow_succ hown'; obtain ⟨hv1, hv2, hr2, hk2, hb2⟩ := hv9.appended (by decide) hr9 hB9.size (by omega) hown' hgrow; have hc1 := hv1.cell; have hf1 := hv1.frozen; have d1 := hv2.cell; have hp10 := ((hp9.alloc (.cells #[.string N] 9)).kept hgrow (hp9.not_row (by decide) hr9)).other (B' := w.heap.size + 1) (by omega) (.slice (some ⟨g', 0, none⟩) (m + 1) cap'); have d2 := hp10.cell; have d3 := ((hB9.trans hb2).cell (p := ⟨rb, 1, none⟩) hrl).trans HR1.out))
        gi_region
        all_goals
          gi_wp2
          have e1 : (nmS (pre ++ [⟨(v, N), hmem⟩])).length = m + 1 := by rw [HMO.out, List.length_append, ← HM.out]; rfl
          have e2 : (nmS (pre ++ [⟨(v, N), hmem⟩])).map Value.string = (nmS pre).map Value.string ++ [.string N] := by rw [HMO.out, List.map_append]; rfl
          have hkF := ((((KeepsOthers.alloc W (.cells #[] 73)).from WS.heap.size).trans (KeepsFrom.of_grownBy (B := WS.heap.size) hg9 (fun j e => by injection e with e; omega))).trans (hk2.from WS.heap.size)).trans ((KeepsOthers.drew _).from WS.heap.size)
          refine ⟨hkF, ⟨_, hv2, ?_⟩, hB9.trans hb2.drew⟩
          rw [e1, e2]
          first
            | exact ⟨hr2, rfl, HFU.out⟩
            | exact ⟨hr2, HFU.out⟩
      · have hq1 : (((m + 1 : Nat) : Int) == (nn : Int)) = false := by rw [beq_eq_false_iff_ne]; omega
        have hq2 : (((m : Int) + 1) == (nn : Int)) = false := by rw [beq_eq_false_iff_ne]; omega
        clear hful
        gi_wp2_with (first
          | (gi_at_lookup; refine wplIn_seenN _ rfl _ _ rfl (w.heap.size + 1 + 1) _ _ _ rfl hSN N rfl (by have := HNZ.out; unfold maxLen; omega) ?_; rw [HIN.out])
          | (gi_at_mapUpdate; refine wplIn_markN _ rfl _ _ _ rfl (w.heap.size + 1 + 1) _ _ _ rfl hW1 (by have := HL2.out; unfold maxLen; omega) N rfl rfl (by have := HNZ.out; unfold maxLen; omega) ?_; intro w9 hm9 hg9; rw [HIN.out, if_neg Bool.false_ne_true, inS_step] at hm9; have hv9 := (hv.alloc (.cells #[] 73)).kept hg9 (fun e => by injection e with e; omega); have hp9 := (hp.alloc (.cells #[] 73)).kept hg9 (fun e => by injection e with e; omega); have hmb9 := (hmb.alloc (.cells #[] 73)).kept hg9 (fun e => by injection e with e; omega); have hb49 := (hb4.alloc (.cells #[] 73)).kept hg9 (fun e => by injection e with e; omega); have hr9 := (hrow.alloc (.cells #[] 73)).kept hg9 (.inr (setN_row hW1 (hrow.alloc (.cells #[] 73)))); have hB9 := (hB.alloc hB.size (.cells #[] 73)).grown hg9 (hB.alloc hB.size (.cells #[] 73)).size (fun q e => by injection e with e; omega); have cx9 : w9.cell? ⟨Bx, 1, none⟩ = some (.string N) := (by rw [cell_of_row w9 Bx 1 _ _ _ ((hg9.block Bx (by simp; omega) (by intro e; injection e with e; omega)).trans (((below_alloc W (.cells #[] 73)).block Bx hbxl).trans hbX))]; rfl); have hvc9 := hv9.cell; have hmc9 := hmb9.cell)
          | (gi_at_builtin; refine wpListIn_append_own _ rfl _ _ 44 rfl w.heap.size 9 i0 (.string ⟨#[]⟩) 1 16 Tryd.underlying44 hi hz0 hz1 hz2 rfl (by decide) _ _ _ rfl (hr9.alloc (.cells #[.string N] 9)) ⟨w9.heap.size, 0, none⟩ 1 1 [.string N] rfl rfl (cells_str w9 N 9) (by intro y hy; simp at hy; subst hy; rfl) (by have := HL2.out; unfold maxLen; omega) (by have := HL2.out; omega) (by have := hB9.size; simp; omega) ?_; intro v' w10 hown' hgrow _; obtain ⟨g', cap', rfl⟩ := ownsRow_succ hown'; obtain ⟨hv1, hv2, hr2, hk2, hb2⟩ := hv9.appended (by decide) hr9 hB9.size (by omega) hown' hgrow; have hc1 := hv1.cell; have hf1 := hv1.frozen; have d1 := hv2.cell; have hp10 := ((hp9.alloc (.cells #[.string N] 9)).kept hgrow (hp9.not_row (by decide) hr9)).other (B' := w.heap.size + 1) (by omega) (.slice (some ⟨g', 0, none⟩) (m + 1) cap'); have d2 := hp10.cell; have d3 := ((hB9.trans hb2).cell (p := ⟨rb, 1, none⟩) hrl).trans HR1.out))
        gi_region
        all_goals
          gi_wp2
          have e1 : (nmS (pre ++ [⟨(v, N), hmem⟩])).length = m + 1 := by rw [HMO.out, List.length_append, ← HM.out]; rfl
          have e2 : (nmS (pre ++ [⟨(v, N), hmem⟩])).map Value.string = (nmS pre).map Value.string ++ [.string N] := by rw [HMO.out, List.map_append]; rfl
          have hkF := ((((KeepsOthers.alloc W (.cells #[] 73)).from WS.heap.size).trans (KeepsFrom.of_grownBy (B := WS.heap.size) hg9 (fun j e => by injection e with e; omega))).trans (hk2.from WS.heap.size)).trans ((KeepsOthers.drew _).from WS.heap.size)
          have hWW : Below w.heap.size W w9 := ((Below.refl w.heap.size W).alloc hB.size (.cells #[] 73)).grown hg9 (hB.alloc hB.size (.cells #[] 73)).size (fun q e => by injection e with e; omega)
          have hb10 := ((hb49.alloc (.cells #[.string N] 9)).kept hgrow (hb49.not_row (by decide) hr9)).other (B' := w.heap.size + 1) (by omega) (.slice (some ⟨g', 0, none⟩) (m + 1) cap')
          have hm10 := ((hmb9.alloc (.cells #[.string N] 9)).kept hgrow (hmb9.not_row (by decide) hr9)).other (B' := w.heap.size + 1) (by omega) (.slice (some ⟨g', 0, none⟩) (m + 1) cap')
          have hs10 := (hm9.alloc (.cells #[.string N] 9)).same (hgrow.block _ (hm9.alloc (.cells #[.string N] 9)).lt (fun e => setN_row hm9 hr9 e.symm))
          have hs11 := hs10.same (Below.heap_setCell w10 ⟨w.heap.size + 1, 0, none⟩ (.slice (some ⟨g', 0, none⟩) (m + 1) cap') (w.heap.size + 1 + 1) (fun e => by have e : w.heap.size + 1 + 1 = w.heap.size + 1 := e; omega))
          refine ⟨hkF, ⟨hWW.trans hb2.drew, Eq.trans hb10 (Eq.symm hb4)⟩, ⟨⟨_, hv2, ?_⟩, hp10, hm10, hb10⟩, ?_, hB9.trans hb2.drew⟩
          · rw [e1, e2]
            first
              | exact hr2
              | exact ⟨hr2, trivial⟩
          · rw [e1, HMO.out]
            exact hs11
  case done =>
    rintro D ys W hD ⟨st, hst, hys⟩ ⟨⟨⟨v, hv, hrow, hzz⟩, hp, hmb, hb4⟩, hSN, hB⟩ hK
    have hvc := hv.cell
    obtain ⟨a9, c9, rfl⟩ := own_slice hrow
    gi_wp2
    refine ⟨by simp, .inl ⟨_, _, rfl, run_takeDeferred hK, ?_⟩⟩
    exact ⟨_, results_tmp rfl _ _ _, st, nmS ys, a9, c9, hst, .inl (by unfold nmS; rw [hys]), rfl, (isStrs_ownM (ownsRow_putObj hrow _ hK rfl)).2, hB.trans (belowK_b (w := w) (Nat.le_refl _) W D _ _ (by omega) hK rfl rfl)⟩
  case stop =>
    rintro D c pre W hD ⟨st, k, hst, hk, hpre⟩ ⟨⟨v, hv, hrow, rfl, hful⟩, hB⟩ hK
    have hvc := hv.cell
    obtain ⟨a9, c9, rfl⟩ := own_slice hrow
    have HFU := Lib.hid hful
    clear hful
    gi_wp2
    refine ⟨by simp, .inl ⟨_, _, rfl, run_takeDeferred hK, ?_⟩⟩
    exact ⟨_, results_tmp rfl _ _ _, st, nmS pre, a9, c9, hst, .inr ⟨k, hk, by unfold nmS; rw [hpre], HFU.out⟩, rfl, (isStrs_ownM (ownsRow_putObj hrow _ hK rfl)).2, hB.trans (belowK_b (w := w) (Nat.le_refl _) W D _ _ (by omega) hK rfl rfl)⟩
theorem walk35 (rb nn : Nat) (ps : List Pt) (hl : ps.length ≤ 100000) (hz : ∀ p ∈ ps, p.2.size ≤ 1000) (hr : Rise ps) (x : Nat) (w : World) (hRg : RingAt w rb ps nn) :
    Calls Tryd.prog 15 #[.pointer (some ⟨rb, 0, none⟩), .int .u64 (x : Nat)] w fun e w' => ∃ st l a c, LowAt ps x st ∧ (l = nmL (arL ps st) ∨ ∃ k, k ≤ ps.length ∧ l = nmL ((arL ps st).take k) ∧ l.length = nn) ∧ e = .returned (.slice a l.length c) ∧ IsStrs w' a c l ∧ Below w.heap.size w w' := callsIn_wide.1 (walk35_in 3 (by decide) rb nn ps hl hz hr x w hRg)
end Go.Proofs.YtklfpnnnoaaiaaaDoor

/- ring: the names that a walk gives, as lists. -/
namespace Go.Proofs.YtklfpnnnoaaiaaaDoor
open Go.RowKit

theorem LowAt.uniq {ps : List Pt} {x a b : Nat} (h : LowAt ps x a) (k : LowAt ps x b) : a = b := by
  rcases Nat.lt_trichotomy a b with h1 | h1 | h1
  · have hl : a < ps.length := Nat.lt_of_lt_of_le h1 k.le
    have h2 := k.lo a _ (List.getElem?_eq_getElem hl) h1
    have h3 := h.hi a _ (List.getElem?_eq_getElem hl) (Nat.le_refl _)
    omega
  · exact h1
  · have hl : b < ps.length := Nat.lt_of_lt_of_le h1 h.le
    have h2 := h.lo b _ (List.getElem?_eq_getElem hl) h1
    have h3 := k.hi b _ (List.getElem?_eq_getElem hl) (Nat.le_refl _)
    omega
theorem nmL_take (ps : List Pt) (st : Nat) : ∀ j, j ≤ ps.length → nmL ((arL ps st).take j) = nmW ps st j
  | 0, _ => by rw [List.take_zero]; rfl
  | j + 1, h => by
    rw [← arL_take (ps := ps) (st := st) (k := j) (by omega), nmL_snoc, nmL_take ps st j (by omega)]
    rfl
theorem nmL_all (ps : List Pt) (st : Nat) : nmL (arL ps st) = nmW ps st ps.length := by
  rw [← nmL_take ps st ps.length (Nat.le_refl _), List.take_of_length_le (by rw [arL_len]; exact Nat.le_refl _)]
theorem nmL_app (a : List Pt) : ∀ b : List Pt, ∃ r, nmL (a ++ b) = nmL a ++ r := by
  intro b
  rw [← List.reverse_reverse b]
  generalize b.reverse = c
  induction c with
  | nil => exact ⟨[], by simp⟩
  | cons q c ih =>
    obtain ⟨r, hr⟩ := ih
    rw [List.reverse_cons, ← List.append_assoc, nmL_snoc]
    split
    · exact ⟨r, hr⟩
    · exact ⟨r ++ [q.2], by rw [hr, List.append_assoc]⟩
/-- A way cut short at as many names as there are is the whole one. -/
theorem nmL_short {l : List Pt} {k n : Nat} (h : (nmL (l.take k)).length = n) (h2 : (nmL l).length = n) : nmL (l.take k) = nmL l := by
  obtain ⟨r, hr⟩ := nmL_app (l.take k) (l.drop k)
  rw [List.take_append_drop] at hr
  have h3 : (nmL (l.take k) ++ r).length = n := by rw [← hr]; exact h2
  rw [List.length_append, h] at h3
  rw [hr, List.eq_nil_of_length_eq_zero (show r.length = 0 by omega), List.append_nil]
theorem inS_mem {l : List ByteArray} {N : ByteArray} : inS l N = true ↔ N ∈ l := by
  unfold inS
  rw [List.any_eq_true]
  constructor
  · rintro ⟨e, he, h⟩
    obtain rfl := of_decide_eq_true h
    exact he
  · intro h
    exact ⟨N, h, decide_eq_true rfl⟩
theorem nmL_spec (l : List Pt) : (nmL l).Nodup ∧ ∀ N, N ∈ nmL l ↔ ∃ p ∈ l, p.2 = N := by
  rw [← List.reverse_reverse l]
  generalize l.reverse = c
  induction c with
  | nil => exact ⟨List.nodup_nil, fun N => by simp [nmL]⟩
  | cons q c ih =>
    rw [List.reverse_cons, nmL_snoc]
    by_cases h : inS (nmL c.reverse) q.2 = true
    · rw [if_pos h]
      refine ⟨ih.1, fun N => ?_⟩
      rw [ih.2 N]
      constructor
      · rintro ⟨p, hp, e⟩; exact ⟨p, List.mem_append_left _ hp, e⟩
      · rintro ⟨p, hp, e⟩
        rcases List.mem_append.1 hp with hp | hp
        · exact ⟨p, hp, e⟩
        · obtain rfl : p = q := by simpa using hp
          rw [← e]
          exact (ih.2 _).1 (inS_mem.1 h)
    · rw [if_neg h]
      refine ⟨?_, fun N => ?_⟩
      · rw [List.nodup_append]
        refine ⟨ih.1, by simp, fun x hx y hy => ?_⟩
        obtain rfl : y = q.2 := by simpa using hy
        rintro rfl
        exact h (inS_mem.2 hx)
      · rw [List.mem_append, ih.2 N]
        constructor
        · rintro (⟨p, hp, e⟩ | hp)
          · exact ⟨p, List.mem_append_left _ hp, e⟩
          · exact ⟨q, by simp, (List.mem_singleton.1 hp).symm⟩
        · rintro ⟨p, hp, e⟩
          rcases List.mem_append.1 hp with hp | hp
          · exact .inl ⟨p, hp, e⟩
          · obtain rfl : p = q := by simpa using hp
            exact .inr (by rw [← e]; simp)
theorem arL_mem {ps : List Pt} {st : Nat} (p : Pt) : p ∈ arL ps st ↔ p ∈ ps := by
  unfold arL
  rw [List.mem_map]
  constructor
  · rintro ⟨i, hi, rfl⟩
    have hm : (st + i) % ps.length < ps.length := Nat.mod_lt _ (by have := List.mem_range.1 hi; omega)
    rw [List.getD_eq_getElem?_getD, List.getElem?_eq_getElem hm]
    exact List.getElem_mem hm
  · intro hp
    obtain ⟨j, hj, rfl⟩ := List.getElem_of_mem hp
    have hm := Nat.mod_lt st (show 0 < ps.length by omega)
    refine ⟨(j + ps.length - st % ps.length) % ps.length, List.mem_range.2 (Nat.mod_lt _ (by omega)), ?_⟩
    have e : (st + (j + ps.length - st % ps.length) % ps.length) % ps.length = j := by
      rw [Nat.add_mod_mod, ← Nat.mod_add_mod, show st % ps.length + (j + ps.length - st % ps.length) = j + ps.length by omega, Nat.add_mod_right, Nat.mod_eq_of_lt hj]
    rw [e, List.getD_eq_getElem?_getD, List.getElem?_eq_getElem hj]
    rfl
/-- All names have a point, so a whole walk gives as many names as there are entries. -/
theorem nmL_count {k : Nat → UInt8} {p G : Nat} {es : List Ent} (ha : Apart es) (st : Nat) : (nmL (arL (srtP (ptsL k p G es)) st)).length = es.length := by
  have hs := nmL_spec (arL (srtP (ptsL k p G es)) st)
  have hn : (es.map (·.1)).Nodup := by
    unfold Apart at ha
    exact List.pairwise_map.2 ha
  have hlm : (es.map (·.1)).length = es.length := List.length_map ..
  rw [← hlm]
  refine List.Perm.length_eq ((List.perm_ext_iff_of_nodup hs.1 hn).2 fun N => ?_)
  rw [hs.2 N]
  constructor
  · rintro ⟨q, hq, rfl⟩
    rw [arL_mem, (srtP_perm _).mem_iff] at hq
    unfold ptsL at hq
    obtain ⟨e, he, h2⟩ := List.mem_flatMap.1 hq
    obtain ⟨i, hi, rfl⟩ := List.mem_map.1 h2
    exact List.mem_map.2 ⟨e, he, rfl⟩
  · intro h
    obtain ⟨e, he, rfl⟩ := List.mem_map.1 h
    refine ⟨(ptV k e.1 0, e.1), ?_, rfl⟩
    rw [arL_mem, (srtP_perm _).mem_iff]
    exact List.mem_flatMap.2 ⟨e, he, List.mem_map.2 ⟨0, List.mem_range.2 (by unfold cntP; omega), rfl⟩⟩
end Go.Proofs.YtklfpnnnoaaiaaaDoor

