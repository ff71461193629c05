/- Idle connections: forget. -/
import Derived.Test.YtcdgmhglpcokdaaIdC
namespace Go.Proofs.Ytcdgmhglpcokdaa
open Go.RowKit Go.Maps

theorem OrS.abO {κ : Type} {K : KTy κ} {pl : Pl} {PT IT : TypeId} {M : MTyK K (Option Nat)} {W w : World} {ab n N : Nat} {sets : Int} {C : Value × Int × Int → Prop} {O : Nat → Prop} (h : OrS pl PT IT M W ab n N sets C O w) : ¬ O ab := by
  obtain ⟨⟨v, mp, Q, F, S, h1, h2, h3⟩, h4, h5⟩ := h
  exact (h2 ab (h1.sub ab (.inl rfl))).2.2
theorem OrS.abLt {κ : Type} {K : KTy κ} {pl : Pl} {PT IT : TypeId} {M : MTyK K (Option Nat)} {W w w' : World} {ab n N : Nat} {sets : Int} {C : Value × Int × Int → Prop} {O : Nat → Prop} (h : OrS pl PT IT M W ab n N sets C O w) (hb : Below w.heap.size w w') : ab < w'.heap.size := by
  obtain ⟨⟨v, mp, Q, F, S, h1, h2, h3⟩, h4, h5⟩ := h
  exact Nat.lt_of_lt_of_le (h2 ab (h1.sub ab (.inl rfl))).2.1 hb.size
theorem wlook {w w' : World} {wb : Nat} {bmv : Value} {N : Nat} {L : List Cn} {F : Int → Option ByteArray} {G : ByteArray → Option SlT} (_ : IdM w (.map (some wb)) bmv N L F G) (h : MapK MWI w' wb N G) {nm : ByteArray} {b n c : Nat} (hG : G nm = some (some (b, n, c))) (hn : KS.ok nm) : (Instr.lookup 61 (.map (some wb)) (.string nm) false).run Try.prog w' = .ok (.slice (some ⟨b, 0, none⟩) n c) w' := by
  have := h.look (s := nm) hn
  rw [hG] at this
  exact this
set_option maxHeartbeats 2000000 in
set_option maxRecDepth 100000 in
theorem iforget (W : World) (X : Nat → Prop) (ab : Nat) (a b : Int) (N : Nat) (sets : Int) (LA L : List Cn) (w : World) (h : IdS W X ab a b N sets LA L w) {gs : Int} (hg : GoodI gs L) (hl : L.length ≤ 100000) (hN : N ≤ 100000) (e : Cn) (he : e ∈ L) :
    Calls Try.prog 26 #[.pointer (some ⟨ab, 0, none⟩), .int .i64 e.cn] w fun o w' => o = .returned (.tuple #[]) ∧ IdS W X ab a b (N + 1) sets LA (dropI L e.cn) w' ∧ Keep (fun k => ¬ X k) w w' := by
  obtain ⟨wmv, bmv, F, G, ho, hm, hown⟩ := h.ex
  obtain ⟨wb, bk, rfl, rfl, hne, m1, m2⟩ : ∃ wb bk, wmv = .map (some wb) ∧ bmv = .map (some bk) ∧ wb ≠ bk ∧ MapK MWI w wb N G ∧ MapC MBI w bk N L.length F := by
    rcases hm.mp with ⟨_, _, h0⟩ | h1
    · rw [h0] at he; cases he
    · exact h1
  have hnm : e.nm.size ≤ maxLen := hg.nok e he
  have hcw : KN.ok e.cn := hg.cok e he
  have hF : F e.cn = some e.nm := (hm.fF _ _).2 ⟨e, he, rfl, rfl⟩
  have hmem : e.cn ∈ ofI L e.nm := mem_ofI.2 ⟨e, he, rfl, rfl⟩
  have hwl : (without (ofI L e.nm) e.cn).length < (ofI L e.nm).length := by
    have h1 : without (ofI L e.nm) e.cn = ofI (dropI L e.cn) e.nm := (ofI_drop L e.cn e.nm).symm
    have h2 := List.length_filter_lt_length_iff_exists (p := fun x => !decide (x = e.cn)) (l := ofI L e.nm)
    exact h2.2 ⟨e.cn, hmem, by simp⟩
  have hle : (ofI L e.nm).length ≤ 1000000 := by
    have : (ofI L e.nm).length ≤ L.length := by unfold ofI; rw [List.length_map]; exact List.length_filter_le _ _
    omega
  obtain ⟨z, hG⟩ : ∃ z, G e.nm = some z := by
    cases hz : G e.nm with
    | none => have := hm.no e.nm hz; rw [this] at hmem; cases hmem
    | some z => exact ⟨z, rfl⟩
  obtain ⟨rb, rc, cs, rfl, hpos, hrow, hcs, hcm, hfst⟩ := hm.yes e.nm z hG
  obtain ⟨w1, hw1⟩ : ∃ w1, w.alloc (.cells #[.int .i64 e.cn] 3) = w1 := ⟨_, rfl⟩
  obtain ⟨cb, hcb⟩ : ∃ cb, w.heap.size = cb := ⟨_, rfl⟩
  have hbox : Row w1 cb 3 #[.int .i64 e.cn] := by rw [← hw1, ← hcb]; exact Row.new _ _ _
  have hb1 : Below w.heap.size w w1 := by rw [← hw1]; exact below_alloc _ _
  have hrb : rb < w.heap.size := hrow.lt
  have hcr : cb ≠ rb := by omega
  have p2 := (ho.below hb1).preCell 2 (by show 2 < 4; omega)
  have p3 := (ho.below hb1).preCell 3 (by show 3 < 4; omega)
  have c2 : w1.cell? ⟨ab, 2, none⟩ = some (.map (some wb)) := p2.1
  have c3 : w1.cell? ⟨ab, 3, none⟩ = some (.map (some bk)) := p3.1
  have c0 : w1.cell? ⟨cb, 0, none⟩ = some (.int .i64 e.cn) := hbox.cell 0
  have lk : (Instr.lookup 26 (.map (some bk)) (.int .i64 e.cn) false).run Try.prog w1.drew = .ok (.string e.nm) w1.drew := by
    have := ((m2.below hb1).same (w' := w1.drew) rfl).k.look (s := e.cn) hcw
    rw [hF] at this
    exact this
  have HO1 := Lib.hid (ho.below hb1)
  have HLT : Hid (ab < w1.heap.size ∧ rb < w1.heap.size) := ⟨ho.abLt hb1, Nat.lt_of_lt_of_le hrb hb1.size⟩
  have HAB : Hid (ab ≠ bk ∧ ab ≠ wb ∧ ab ≠ rb) := by
    have h9 := ho.abO
    exact ⟨fun e2 => h9 (by rw [e2]; exact .inr (.inr (.inl rfl))), fun e2 => h9 (by rw [e2]; exact .inr (.inl rfl)), fun e2 => h9 (by rw [e2]; exact .inr (.inr (.inr ⟨_, _, _, hG⟩)))⟩
  have HM1 := Lib.hid (hm.keep (P := fun _ => False) (.of_below hb1) (fun _ _ h => h))
  have H1 := Lib.hid (m1.below hb1)
  have H2 := Lib.hid (m2.below hb1)
  have HRW := Lib.hid (hrow.below hb1)
  have HBX := Lib.hid hbox
  have HB1 := Lib.hid hb1
  have HOW := Lib.hid hown
  have HNE : Hid (wb ≠ bk) := hne
  have HG := Lib.hid hG
  have HGD := Lib.hid hg
  have HF := Lib.hid hF
  have HCW : Hid (KN.ok e.cn) := hcw
  have HNM : Hid (KS.ok e.nm) := hnm
  have HFS := Lib.hid hfst
  have HCS := Lib.hid hcs
  have HHE := Lib.hid he
  have HCR : Hid (cb ≠ rb) := hcr
  have HWL : Hid ((without (ofI L e.nm) e.cn).length < (ofI L e.nm).length) := hwl
  clear ho hm hown m1 m2 hF hmem hG hrow hbox hb1 hg h hne hcw hnm hfst hcs he hcr p2 p3 hwl hpos hrb
  go_enter Try.func26, Try.ntmps26
  go_wp2_with fail
  refine region_tail 6 (by kernel_rfl) (by kernel_rfl) ?_
  simp only [List.take_succ_cons, List.take_zero, List.drop_succ_cons, List.drop_zero]
  repeat still_step
  refine still_tail_nil ?_
  go_wp2_with fail
  refine region_tail 5 (by kernel_rfl) (by kernel_rfl) ?_
  simp only [List.take_succ_cons, List.take_zero, List.drop_succ_cons, List.drop_zero]
  repeat still_step
  refine still_tail_nil ?_
  have HABB : Hid (ab ≠ bk ∧ ab ≠ wb ∧ ab ≠ rb) := HAB
  clear lk
  have c0' := HBX.out
  go_wp2_with (at_delete; refine wpl_dropC MBI _ rfl _ _ rfl bk N L.length F rfl (H2.out.same rfl) e.cn rfl HCW.out ?_; intro w3 m3 g3; have HK3 : Hid (Keep (fun x => x = bk) w1 w3) := ((Keep.drew w1).trans (Keep.drew _)).trans (Keep.turnedK g3 rfl); have HM3 : Hid (MapC MBI w3 bk N (L.length - 1) (updK F e.cn none)) := (by have := m3; rw [HF.out] at this; exact this); clear m3 g3; have c2' : w3.cell? ⟨ab, 2, none⟩ = some (.map (some wb)) := ((keep_cellI HK3.out HLT.out.1 HABB.out.1 2).trans c2); have H13 := Lib.hid (H1.out.keep HK3.out HNE.out); have lk3 := wlook HM1.out H13.out HG.out HNM.out; have HRW3 := Lib.hid (HRW.out.keep HK3.out (H2.out.k.ne_row HRW.out).symm); have HDL := Lib.hid (idelete rb rc cb e.cn (ofI L e.nm) cs w3 hle HRW3.out HCS.out HFS.out ((HBX.out.keep HK3.out (H2.out.k.ne_row HBX.out).symm).cell 0) HCR.out))
  refine HDL.out.mono ?_
  rintro o w4 ⟨rfl, ⟨cs', r1, r2, r3⟩, hk4⟩
  have c2'' : w4.cell? ⟨ab, 2, none⟩ = some (.map (some wb)) := (keep_cellI hk4 (Nat.lt_of_lt_of_le HLT.out.1 HK3.out.size) HABB.out.2.2 2).trans c2'
  have HR4 := Lib.hid r1
  have HZ4 := Lib.hid r2
  have HF4 := Lib.hid r3
  have H14 := Lib.hid (H13.out.keep hk4 (H13.out.ne_row HRW3.out))
  have HM4 := Lib.hid (HM3.out.keep hk4 (HM3.out.k.ne_row HRW3.out))
  have HK4 : Hid (Keep (fun k => k = wb ∨ k = bk ∨ k = rb) w1 w4) := (HK3.out.more (fun k _ e => .inr (.inl e))).trans (hk4.more (fun k _ e => .inr (.inr e)))
  clear r1 r2 r3 hk4 HDL lk3 c2' c2 c3 c0 c0'
  obtain ⟨m, hm⟩ : ∃ m, (without (ofI L e.nm) e.cn).length = m := ⟨_, rfl⟩
  rw [hm]
  have HMM := Lib.hid hm
  have hml : m ≤ 1000000 := by have := HWL.out; omega
  clear hm
  have HEND : Hid (∀ w5 G', G' = updK G e.nm (if (without (ofI L e.nm) e.cn).length = 0 then none else some (some (rb, (without (ofI L e.nm) e.cn).length, rc))) → MapK MWI w5 wb (N + 1) G' → Keep (fun x => x = wb) w4 w5 → IdS W X ab a b (N + 1) sets LA (dropI L e.cn) w5 ∧ Keep (fun k => ¬ X k) w w5) := fun w5 G' hG' m5 hk5 => by
    have hk : Keep (fun k => k = wb ∨ k = bk ∨ k = rb) w1 w5 := HK4.out.trans (hk5.more (fun k _ e => .inl e))
    have hr5 := HR4.out.keep hk5 (H14.out.ne_row HR4.out).symm
    have hm5 := (HM4.out.keep hk5 (fun e2 => HNE.out e2.symm)).mono (Nat.le_succ N)
    have hin : ∀ k, (k = wb ∨ k = bk ∨ k = rb) → OwnI (.map (some wb)) (.map (some bk)) G k := fun k hk => by
      rcases hk with rfl | rfl | rfl
      · exact .inl rfl
      · exact .inr (.inl rfl)
      · exact .inr (.inr ⟨_, _, _, HG.out⟩)
    have hsub : ∀ k, OwnI (.map (some wb)) (.map (some bk)) G' k → OwnI (.map (some wb)) (.map (some bk)) G k := fun k hk => by
      rcases hk with hk | hk | ⟨nm, n, c, hk⟩
      · exact .inl hk
      · exact .inr (.inl hk)
      · by_cases hx : nm = e.nm
        · subst hx
          rw [hG', updK_same] at hk
          split at hk
          · cases hk
          · injection hk with hk
            injection hk with hk
            injection hk with hk _
            exact hin k (.inr (.inr hk.symm))
        · rw [hG', updK_other G _ hx] at hk
          exact .inr (.inr ⟨nm, n, c, hk⟩)
    have hid := IdM.forgot (HM1.out.moreN (Nat.le_succ N)) HGD.out HHE.out HNE.out HG.out hk hG' m5 hm5 hr5 HZ4.out HF4.out
    refine ⟨⟨_, _, _, G', (HO1.out.keepO hk (fun k hk2 => ⟨.inr (hin k hk2), (HOW.out k (hin k hk2)).1⟩) (fun k hk2 => ?_)).moreNI (Nat.le_succ N), hid, fun k hk2 => HOW.out k (hsub k hk2)⟩, (Keep.of_below HB1.out).trans (hk.more (fun k _ hk2 => (HOW.out k (hin k hk2)).2))⟩
    rcases hk2 with hk2 | hk2
    · exact ⟨Nat.lt_of_lt_of_le (HO1.out.oth k (.inl hk2)) hk.size, .inl (.inl hk2)⟩
    · exact ⟨Nat.lt_of_lt_of_le (HO1.out.oth k (.inr (hsub k hk2))) hk.size, .inl (.inr (hsub k hk2))⟩
  by_cases h0 : m = 0
  · subst h0
    have HE2 : Hid (∀ w5, MapK MWI w5 wb N (updK G e.nm none) → Keep (fun x => x = wb) w4 w5 → IdS W X ab a b (N + 1) sets LA (dropI L e.cn) w5 ∧ Keep (fun k => ¬ X k) w w5) := fun w5 m5 hk5 => HEND.out w5 _ (by rw [HMM.out]; rfl) (m5.mono (Nat.le_succ N)) hk5
    clear HEND
    go_wp2_with (at_delete; refine wpl_dropK MWI _ rfl _ _ rfl wb N G rfl H14.out e.nm rfl HNM.out ?_; intro w5 m5 g5; have HFIN := Lib.hid (HE2.out w5 m5 (Keep.turnedK g5 rfl)); clear m5 g5)
    refine bodyPost_ret (v := .tuple #[]) (results_none rfl _ _ _) rfl ?_
    exact ⟨rfl, HFIN.out⟩
  · have hmz : ((m : Int) == 0) = false := by simp; omega
    have HE2 : Hid (∀ w5, MapK MWI w5 wb (N + 1) (updK G e.nm (some (some (rb, m, rc)))) → Keep (fun x => x = wb) w4 w5 → IdS W X ab a b (N + 1) sets LA (dropI L e.cn) w5 ∧ Keep (fun k => ¬ X k) w w5) := fun w5 m5 hk5 => HEND.out w5 _ (by rw [HMM.out, if_neg h0]) m5 hk5
    have HNN : Hid (N < maxLen) := by show N < maxLen; unfold maxLen; omega
    clear HEND h0
    go_wp2_with (at_mapUpdate; refine wpl_storeK MWI _ rfl _ _ _ rfl wb N G rfl H14.out HNN.out e.nm (some (rb, m, rc)) rfl rfl HNM.out ?_; intro w5 m5 g5; have HFIN := Lib.hid (HE2.out w5 m5 (Keep.turnedK g5 rfl)); clear m5 g5)
    go_end0
    exact ⟨rfl, HFIN.out⟩
end Go.Proofs.Ytcdgmhglpcokdaa
