/- Idle connections: insert (written by genidf.py). -/
import Derived.Test.YtcdgmhglpcokdaaIdE
namespace Go.Proofs.Ytcdgmhglpcokdaa
open Go.RowKit Go.Maps

theorem infoInt : (Try.prog.info? 3).map (fun i => (i.zero, i.size, i.bytes)) = some (some (.int .i64 0), 1, 8) := by kernel_rfl
/-- What holds while a number is appended. -/
structure InS (W : World) (v : Value) (xs : List Value) (c : Int) (L : Nat → Bool) (x : Nat → Value) (w : World) : Prop where
  keep : Keep (fun k => v.ownBlock = some k) W w
  own : L 13 = false → w.ownsRow 0 3 1 v xs.length xs
  p12 : L 12 = true → L 13 = false → ∃ b, x 12 = .slice (some ⟨b, 0, none⟩) 1 1 ∧ ∀ (k : Nat) u, [Value.int .i64 c][k]? = some u → w.cell? ((⟨b, 0, none⟩ : Addr).add k) = some u
  p13 : L 13 = true → L 12 = true ∧ ∃ g cap, x 13 = .slice (some ⟨g, 0, none⟩) (xs.length + 1) cap ∧ w.ownsRow 0 3 1 (.slice (some ⟨g, 0, none⟩) (xs.length + 1) cap) (xs.length + 1) (xs ++ [.int .i64 c]) ∧ (v.ownBlock = some g ∨ W.heap.size ≤ g)
section InSS
variable {W w w' : World} {v : Value} {xs : List Value} {c : Int} {L : Nat → Bool} {x : Nat → Value}
theorem InS.start (h : W.ownsRow 0 3 1 v xs.length xs) : InS W v xs c (fun _ => false) x W.drew :=
  ⟨Keep.drew W, fun _ => h.drew, (fun h => by cases h), (fun h => by cases h)⟩
theorem InS.next (h : InS W v xs c L x w) (i : Nat) (u : Value) (h12 : i ≠ 12) (h13 : i ≠ 13) : InS W v xs c (setL L i) (updV x i u) w := by
  refine ⟨h.keep, fun e => h.own ?_, fun e e2 => ?_, fun e => ?_⟩
  · simpa [setL, Ne.symm h13] using e
  · have a1 : L 12 = true := by simpa [setL, Ne.symm h12] using e
    have a2 : L 13 = false := by simpa [setL, Ne.symm h13] using e2
    simpa [updV, Ne.symm h12] using h.p12 a1 a2
  · have a2 : L 13 = true := by simpa [setL, Ne.symm h13] using e
    obtain ⟨q1, q2⟩ := h.p13 a2
    refine ⟨by simp [setL, q1], ?_⟩
    simpa [updV, Ne.symm h13] using q2
theorem InS.no13 (h : InS W v xs c L x w) (h12 : L 12 = false) : L 13 = false := by
  cases e : L 13 with
  | false => rfl
  | true => have := (h.p13 e).1; rw [h12] at this; cases this
theorem InS.made (h : InS W v xs c L x w) (h13 : L 13 = false) (_ : L 12 = false) : InS W v xs c (setL L 12) (updV x 12 (.slice (some ⟨w.heap.size, 0, none⟩) 1 1)) (w.alloc (.cells #[.int .i64 c] 3)) := by
  refine ⟨h.keep.trans (.alloc w _), fun _ => (h.own h13).alloc _, fun _ _ => ⟨w.heap.size, by simp [updV], fun k u hu => ?_⟩, fun e => ?_⟩
  · rw [Addr.add_mid, Nat.zero_add, (Row.new w 3 #[.int .i64 c]).cell]
    simpa using hu
  · have : L 13 = true := by simpa [setL] using e
    rw [h13] at this; cases this
theorem InS.grew (h : InS W v xs c L x w) (h12 : L 12 = true) {g cap : Nat} (ho : w'.ownsRow 0 3 1 (.slice (some ⟨g, 0, none⟩) (xs.length + 1) cap) (xs.length + 1) (xs ++ [.int .i64 c])) (hg : w.grownBy w' v.ownBlock) (hw : v.ownBlock = some g ∨ g = w.heap.size) : InS W v xs c (setL L 13) (updV x 13 (.slice (some ⟨g, 0, none⟩) (xs.length + 1) cap)) w' := by
  refine ⟨h.keep.trans (Keep.grown hg (fun k hk => hk)), fun e => ?_, fun _ e => ?_, fun _ => ⟨by simp [setL, h12], g, cap, by simp [updV], ho, hw.imp id (fun e => by rw [e]; exact h.keep.size)⟩⟩
  · simp [setL] at e
  · simp [setL] at e
theorem InS.cell (h : InS W v xs c L x w) {b : Nat} (hb : b < W.heap.size) (hv : v.ownBlock ≠ some b) (o : Nat) {u : Value} (hu : W.cell? ⟨b, o, none⟩ = some u) : w.cell? ⟨b, o, none⟩ = some u := (keep_cellI h.keep hb hv o).trans hu
end InSS
set_option maxHeartbeats 4000000 in
set_option maxRecDepth 100000 in
/-- insert, where the maps are there: from its third region on. -/
theorem iins (W : World) (X : Nat → Prop) (ab : Nat) (a b : Int) (N : Nat) (sets : Int) (LA L : List Cn) (w : World) (F : Int → Option ByteArray) (G : ByteArray → Option SlT) (wb bk : Nat) (ho : OrS (plI a b (.map (some wb)) (.map (some bk))) 97 99 MPN W ab LA.length N sets (CI LA) (OI X (.map (some wb)) (.map (some bk)) G) w) (hm : IdM w (.map (some wb)) (.map (some bk)) N L F G) (hown : ∀ k, OwnI (.map (some wb)) (.map (some bk)) G k → W.heap.size ≤ k ∧ ¬ X k) (hl : L.length ≤ 100000) (hN : N ≤ 100000) (c ti tu : Int) (nm : ByteArray) (hc : ∀ e ∈ L, e.cn ≠ c) (hcw : KN.ok c) (hnm : KS.ok nm) :
    Calls Try.prog 23 #[.pointer (some ⟨ab, 0, none⟩), .string nm, .int .i64 c] w fun o w' => o = .returned (.tuple #[]) ∧ IdS W X ab a b (N + 1) sets LA (L ++ [⟨nm, c, ti, tu⟩]) w' ∧ Keep (fun k => ¬ X k) w w' := by
  obtain ⟨i0, hi, hz0, hz1, hz2⟩ := info_parts infoInt
  obtain ⟨hne, m1, m2⟩ : wb ≠ bk ∧ MapK MWI w wb N G ∧ MapC MBI w bk N L.length F := by
    rcases hm.mp with ⟨e1, _⟩ | ⟨wb', bk', e1, e2, h3, h4, h5⟩
    · cases e1
    · injection e1 with e1
      injection e1 with e1
      injection e2 with e2
      injection e2 with e2
      subst e1 e2
      exact ⟨h3, h4, h5⟩
  have hF : F c = none := by
    cases hf : F c with
    | none => rfl
    | some nm' =>
      obtain ⟨e, he, h1, _⟩ := (hm.fF _ _).1 hf
      exact absurd h1 (hc e he)
  have hle : (ofI L nm).length ≤ 100000 := by
    have : (ofI L nm).length ≤ L.length := by unfold ofI; rw [List.length_map]; exact List.length_filter_le _ _
    omega
  obtain ⟨z, lz, hz⟩ := hm.look (nm := nm) hnm
  have hzo : w.ownsRow 0 3 1 (slV z) ((ofI L nm).map (Value.int .i64)).length ((ofI L nm).map (Value.int .i64)) := by
    rcases hz with ⟨rfl, h0⟩ | ⟨b1, c1, cs1, rfl, hG1, _, q1, q2, q3, q4⟩
    · rw [h0]; exact World.ownsRow_nil _ _ _ _
    · rw [List.length_map]; exact own_fst q1 q2 q3 q4
  have hzb : ∀ k, (slV z).ownBlock = some k → (∃ n0 c0, G nm = some (some (k, n0, c0))) ∧ OwnI (.map (some wb)) (.map (some bk)) G k ∧ k ≠ wb ∧ k ≠ bk ∧ k ≠ ab := fun k hk => by
    rcases hz with ⟨rfl, h0⟩ | ⟨b1, c1, cs1, rfl, hG1, _, q1, q2, q3, q4⟩
    · cases hk
    · have : b1 = k := by injection hk
      subst this
      exact ⟨⟨_, _, hG1⟩, .inr (.inr ⟨_, _, _, hG1⟩), (m1.ne_row q1).symm, (m2.k.ne_row q1).symm, fun e => ho.abO (by rw [← e]; exact .inr (.inr (.inr ⟨_, _, _, hG1⟩)))⟩
  have hxl : ((ofI L nm).map (Value.int .i64)).length = (ofI L nm).length := List.length_map _
  obtain ⟨xs, hxs⟩ : ∃ xs, (ofI L nm).map (Value.int .i64) = xs := ⟨_, rfl⟩
  rw [hxs] at hzo hxl
  have hab : ab ≠ bk ∧ ab ≠ wb := ⟨fun e2 => ho.abO (by rw [e2]; exact .inr (.inr (.inl rfl))), fun e2 => ho.abO (by rw [e2]; exact .inr (.inl rfl))⟩
  have hal : ab < w.heap.size := ho.abLt (Below.refl _ _)
  have c2 : w.cell? ⟨ab, 2, none⟩ = some (.map (some wb)) := (ho.preCell 2 (by show 2 < 4; omega)).1
  have c3 : w.cell? ⟨ab, 3, none⟩ = some (.map (some bk)) := (ho.preCell 3 (by show 3 < 4; omega)).1
  have HXS := Lib.hid hxs
  have HXL := Lib.hid hxl
  have hxb : xs.length ≤ 100000 := by omega
  have HO := Lib.hid ho
  have HM := Lib.hid hm
  have H1 := Lib.hid m1
  have H2 := Lib.hid m2
  have HOW := Lib.hid hown
  have HNE : Hid (wb ≠ bk) := hne
  have HFN := Lib.hid hF
  have HCW : Hid (KN.ok c) := hcw
  have HNM : Hid (KS.ok nm) := hnm
  have HZB := Lib.hid hzb
  have HZO := Lib.hid hzo
  have HAB : Hid (ab ≠ bk ∧ ab ≠ wb) := hab
  have HAL : Hid (ab < w.heap.size) := hal
  have HC2 := Lib.hid c2
  have HLZ : Hid (∀ w9, MapK MWI w9 wb N G → (Instr.lookup 61 (.map (some wb)) (.string nm) false).run Try.prog w9 = .ok (slV z) w9) := fun w9 h9 => by
    have := h9.look (s := nm) hnm
    rcases hz with ⟨rfl, h0⟩ | ⟨b1, c1, cs1, rfl, hG1, _⟩
    · have hg0 : G nm = none := by
        cases hg : G nm with
        | none => rfl
        | some y =>
          obtain ⟨_, _, _, _, q, _⟩ := hm.yes nm y hg
          rw [h0] at q; simp at q
      rw [hg0] at this; exact this
    · rw [hG1] at this; exact this
  have HNN : Hid (N < maxLen) := by show N < maxLen; unfold maxLen; omega
  have HCC : Hid (∀ e ∈ L, e.cn ≠ c) := hc
  have hq : (binOp .eql 26 (.map (some bk)) (.map none)).run Try.prog w = .ok (.bool false) w := by kernel_rfl
  clear ho hm m1 m2 hown hne hF hcw hnm hzb hzo hab hal hz lz hxs hxl hc c2
  go_enter Try.func23, Try.ntmps23
  go_wp2_with (at_mapUpdate; refine wpl_storeC MBI _ rfl _ _ _ rfl bk N L.length F rfl H2.out HNN.out c nm rfl rfl HCW.out ?_; intro w4 m4 g4; have HK4 : Hid (Keep (fun x => x = bk) w w4) := Keep.turnedK g4 rfl; have HM4 : Hid (MapC MBI w4 bk (N + 1) (L.length + 1) (updK F c (some nm))) := (by have := m4; rw [HFN.out] at this; exact this); clear m4 g4)
  have H14 := Lib.hid (H1.out.keep HK4.out HNE.out)
  have x2 : w4.cell? ⟨ab, 2, none⟩ = some (.map (some wb)) := (keep_cellI HK4.out HAL.out HAB.out.1 2).trans HC2.out
  have HAB4 : Hid (ab < w4.heap.size ∧ (slV z).ownBlock ≠ some ab) := ⟨Nat.lt_of_lt_of_le HAL.out HK4.out.size, fun e => (HZB.out ab e).2.2.2.2 rfl⟩
  have HO4 : Hid (w4.ownsRow 0 3 1 (slV z) xs.length xs) := own_keep HZO.out HK4.out (fun k hk e => (HZB.out k hk).2.2.2.1 e)
  have HLK : Hid (∀ w9, Keep (fun k => (slV z).ownBlock = some k) w4 w9 → (Instr.lookup 61 (.map (some wb)) (.string nm) false).run Try.prog w9 = .ok (slV z) w9) := fun w9 hk9 => HLZ.out w9 (H14.out.keep hk9 (fun e => (HZB.out wb e).2.2.1 rfl))
  clear c3 hq
  refine region_mixt 14 [some (.pointer (some ⟨ab, 0, none⟩)), some (.pointer (some ⟨ab, 0, none⟩)), some (.pointer (some ⟨ab, 2, none⟩)), some (.map (some wb)), some (.string nm), some (.pointer (some ⟨ab, 0, none⟩)), some (.pointer (some ⟨ab, 0, none⟩)), some (.pointer (some ⟨ab, 2, none⟩)), some (.map (some wb)), some (.string nm), some (slV z), some (.int .i64 c), none, none]
    [[false, false, false, false, false, false, false, false, false, false, false, false, false, false], [true, false, false, false, false, false, false, false, false, false, false, false, false, false], [false, true, false, false, false, false, false, false, false, false, false, false, false, false], [false, false, true, false, false, false, false, false, false, false, false, false, false, false], [false, false, false, false, false, false, false, false, false, false, false, false, false, false], [false, false, false, false, false, false, false, false, false, false, false, false, false, false], [false, false, false, false, false, true, false, false, false, false, false, false, false, false], [false, false, false, false, false, false, true, false, false, false, false, false, false, false], [false, false, false, false, false, false, false, true, false, false, false, false, false, false], [false, false, false, false, false, false, false, false, false, false, false, false, false, false], [false, false, false, false, false, false, false, false, true, true, false, false, false, false], [false, false, false, false, false, false, false, false, false, false, false, false, false, false], [false, false, false, false, false, false, false, false, false, false, false, true, false, false], [false, false, false, false, false, false, false, false, false, false, true, false, true, false]]
    (fun L x w1 => InS w4 (slV z) xs c L x w1)
    (by kernel_rfl) (by kernel_rfl) (by kernel_rfl) (by kernel_rfl) (by kernel_rfl) (by decide) ?_ ?_ ?_
  · intro x
    exact InS.start HO4.out
  · simp only [List.take_succ_cons, List.take_zero]
    refine ⟨?_, ?_, ?_, ?_, ?_, ?_, ?_, ?_, ?_, ?_, ?_, ?_, ?_, ?_, trivial⟩
    all_goals
      intro L x w9 hS hl hp K9 hK9
      have hs : InS w4 (slV z) xs c L x w9 := hS
      clear hS
      have d2 := hs.cell HAB4.out.1 HAB4.out.2 2 x2
      replace hK9 := hK9.out
      simp only [actMix, pickV, List.tail_cons, List.headD_cons, Act.put, List.setIfInBounds_toArray, List.set_cons_zero, List.set_cons_succ] at hK9 ⊢
    · clear hp
      go_simp
      with_reducible refine hK9 _ ?_
      exact hs.next 0 _ (by decide) (by decide)
    · clear hp
      go_simp
      with_reducible refine hK9 _ ?_
      exact hs.next 1 _ (by decide) (by decide)
    · clear hp
      go_simp
      with_reducible refine hK9 _ ?_
      exact hs.next 2 _ (by decide) (by decide)
    · clear hp
      go_simp
      with_reducible refine hK9 _ ?_
      exact hs.next 3 _ (by decide) (by decide)
    · clear hp
      go_simp
      with_reducible refine hK9 _ ?_
      exact hs.next 4 _ (by decide) (by decide)
    · clear hp
      go_simp
      with_reducible refine hK9 _ ?_
      exact hs.next 5 _ (by decide) (by decide)
    · clear hp
      go_simp
      with_reducible refine hK9 _ ?_
      exact hs.next 6 _ (by decide) (by decide)
    · clear hp
      go_simp
      with_reducible refine hK9 _ ?_
      exact hs.next 7 _ (by decide) (by decide)
    · clear hp
      go_simp
      with_reducible refine hK9 _ ?_
      exact hs.next 8 _ (by decide) (by decide)
    · clear hp
      go_simp
      with_reducible refine hK9 _ ?_
      exact hs.next 9 _ (by decide) (by decide)
    · clear hp
      have lk9 := HLK.out w9 hs.keep
      go_simp
      with_reducible refine hK9 _ ?_
      exact hs.next 10 _ (by decide) (by decide)
    · clear hp
      go_simp
      with_reducible refine hK9 _ ?_
      exact hs.next 11 _ (by decide) (by decide)
    · clear hp
      have h13 : L 13 = false := hs.no13 hl
      go_simp
      with_reducible refine hK9 _ _ ?_
      exact hs.made h13 hl
    · have h12 := allL_mem hp 12 (by decide +kernel)
      obtain ⟨b9, hx9, hc9⟩ := hs.p12 h12 hl
      have ho9 := hs.own hl
      clear hp
      rw [hx9] at hK9 ⊢
      rw [if_pos (by rfl)]
      refine wp_append_lies _ _ _ 30 rfl 0 3 i0 (.int .i64 0) 1 8 Try.underlying30 hi hz0 hz1 hz2 rfl (by decide) _ _ _ rfl ho9 ⟨b9, 0, none⟩ 1 1 [.int .i64 c] rfl rfl hc9 (by intro u hu; simp at hu; subst hu; rfl) (by decide) (by unfold maxLen; omega) (by omega) (Nat.zero_le _) _ rfl ?_
      intro g5 k5 w5 hown5 hgrow5 hwh5 hlt5
      simp only [Act.put, List.setIfInBounds_toArray, List.set_cons_zero, List.set_cons_succ]
      with_reducible refine hK9 _ _ ?_
      exact hs.grew h12 hown5 hgrow5 hwh5
  intro LL x w9 hS hL
  have hs : InS w4 (slV z) xs c LL x w9 := hS
  clear hS
  simp only [actMix, pickV, List.tail_cons, List.headD_cons, Act.put, List.setIfInBounds_toArray, List.set_cons_zero, List.set_cons_succ, List.replicate_succ, List.replicate_zero, List.drop_succ_cons, List.drop_zero, List.take_succ_cons, List.take_zero]
  have h13 := hL 13 (by decide)
  obtain ⟨-, g5, k5, hx5, hown5, hwh5⟩ := hs.p13 h13
  have HKE := Lib.hid hs.keep
  have HOW5 := Lib.hid hown5
  have HWH := Lib.hid hwh5
  clear hs hL h13 hown5 hwh5 x2
  generalize x 12 = x12
  generalize x 13 = x13 at hx5 ⊢
  subst hx5
  have H19 := Lib.hid (H14.out.keep HKE.out (fun e => (HZB.out wb e).2.2.1 rfl))
  have HM9 := Lib.hid (HM4.out.keep HKE.out (fun e => (HZB.out bk e).2.2.2.1 rfl))
  have HEND : Hid (∀ w5, MapK MWI w5 wb (N + 1) (updK G nm (some (some (g5, xs.length + 1, k5)))) → Keep (fun x => x = wb) w9 w5 → IdS W X ab a b (N + 1) sets LA (L ++ [⟨nm, c, ti, tu⟩]) w5 ∧ Keep (fun k => ¬ X k) w w5) := fun w5 m5 hk5 => by
    have hk : Keep (fun k => k = wb ∨ k = bk ∨ ∃ n0 c0, G nm = some (some (k, n0, c0))) w w5 := ((HK4.out.more (fun k _ e => .inr (.inl e))).trans (HKE.out.more (fun k _ e => .inr (.inr (HZB.out k e).1)))).trans (hk5.more (fun k _ e => .inl e))
    have hgb : (∃ n0 c0, G nm = some (some (g5, n0, c0))) ∨ w.heap.size ≤ g5 := HWH.out.imp (fun e => (HZB.out g5 e).1) (fun e => Nat.le_trans HK4.out.size e)
    have how : w9.ownsRow 0 3 1 (.slice (some ⟨g5, 0, none⟩) (xs.length + 1) k5) (xs.length + 1) ((ofI L nm ++ [c]).map (Value.int .i64)) := by
      rw [List.map_append, HXS.out]; exact HOW5.out
    obtain ⟨-, cs5, r1, r2, r3, r4⟩ := fst_own how
    have hr5 := r1.keep hk5 (H19.out.ne_row r1).symm
    have hm5 := HM9.out.keep hk5 (fun e2 => HNE.out e2.symm)
    rw [HXL.out] at m5
    have hid := IdM.added (ti := ti) (tu := tu) HM.out HCC.out HNE.out hgb hk m5 hm5 hr5 r2 r3 r4
    have hin : ∀ k, (k = wb ∨ k = bk ∨ ∃ n0 c0, G nm = some (some (k, n0, c0))) → OwnI (.map (some wb)) (.map (some bk)) G k := fun k hk => by
      rcases hk with rfl | rfl | ⟨n0, c0, hk⟩
      · exact .inl rfl
      · exact .inr (.inl rfl)
      · exact .inr (.inr ⟨_, _, _, hk⟩)
    have hsub : ∀ k, OwnI (.map (some wb)) (.map (some bk)) (updK G nm (some (some (g5, (ofI L nm).length + 1, k5)))) k → OwnI (.map (some wb)) (.map (some bk)) G k ∨ w.heap.size ≤ k ∧ k < w5.heap.size := fun k hk => by
      rcases hk with hk | hk | ⟨x, n, c1, hk⟩
      · exact .inl (.inl hk)
      · exact .inl (.inr (.inl hk))
      · by_cases hx : x = nm
        · subst hx
          rw [updK_same] at hk
          injection hk with hk
          injection hk with hk
          injection hk with hk _
          subst hk
          rcases hgb with ⟨n0, c0, h0⟩ | h0
          · exact .inl (.inr (.inr ⟨_, _, _, h0⟩))
          · exact .inr ⟨h0, hr5.lt⟩
        · rw [updK_other G _ hx] at hk
          exact .inl (.inr (.inr ⟨_, _, _, hk⟩))
    refine ⟨⟨_, _, _, _, (HO.out.keepO hk (fun k hk2 => ⟨.inr (hin k hk2), (HOW.out k (hin k hk2)).1⟩) (fun k hk2 => ?_)).moreNI (Nat.le_succ N), hid, fun k hk2 => ?_⟩, hk.more (fun k _ hk2 => (HOW.out k (hin k hk2)).2)⟩
    · rcases hk2 with hk2 | hk2
      · exact ⟨Nat.lt_of_lt_of_le (HO.out.oth k (.inl hk2)) hk.size, .inl (.inl hk2)⟩
      · rcases hsub k hk2 with h | h
        · exact ⟨Nat.lt_of_lt_of_le (HO.out.oth k (.inr h)) hk.size, .inl (.inr h)⟩
        · exact ⟨h.2, .inr h.1⟩
    · rcases hsub k hk2 with h | h
      · exact HOW.out k h
      · refine ⟨Nat.le_trans HO.out.bel.size h.1, fun hx => ?_⟩
        have := HO.out.oth k (.inl hx)
        omega
  go_wp2_with (at_mapUpdate; refine wpl_storeK MWI _ rfl _ _ _ rfl wb N G rfl H19.out HNN.out nm (some (g5, xs.length + 1, k5)) rfl rfl HNM.out ?_; intro w5 m5 g5'; have HFIN := Lib.hid (HEND.out w5 m5 (Keep.turnedK g5' rfl)); clear m5 g5')
  go_end0
  exact ⟨rfl, HFIN.out⟩
theorem frz_set (w : World) (b o o2 : Nat) (u : Value) (h : w.frozen? ⟨b, o2, none⟩ = false) : (w.setCell ⟨b, o, none⟩ u).frozen? ⟨b, o2, none⟩ = false := by
  rw [World.frozen?_setCell]; exact h
set_option maxHeartbeats 4000000 in
set_option maxRecDepth 100000 in
/-- insert, where there are no maps. -/
theorem iinsN (W : World) (X : Nat → Prop) (ab : Nat) (a b : Int) (N : Nat) (sets : Int) (LA : List Cn) (w : World) (ho0 : OrS (plI a b (.map none) (.map none)) 97 99 MPN W ab LA.length N sets (CI LA) (OI X (.map none) (.map none) (fun _ => none)) w) (hN : N ≤ 100000) (c ti tu : Int) (nm : ByteArray) (hcw : KN.ok c) (hnm : KS.ok nm) :
    Calls Try.prog 23 #[.pointer (some ⟨ab, 0, none⟩), .string nm, .int .i64 c] w fun o w' => o = .returned (.tuple #[]) ∧ IdS W X ab a b (N + 1) sets LA ([] ++ [⟨nm, c, ti, tu⟩]) w' ∧ Keep (fun k => ¬ X k) w w' := by
  obtain ⟨bk, hbk⟩ : ∃ bk, w.heap.size = bk := ⟨_, rfl⟩
  obtain ⟨wA1, hA1⟩ : ∃ w1, w.alloc (.map #[] 0) = w1 := ⟨_, rfl⟩
  obtain ⟨wb, hwb⟩ : ∃ wb, wA1.heap.size = wb := ⟨_, rfl⟩
  obtain ⟨wA2, hA2⟩ : ∃ w2, wA1.alloc (.map #[] 0) = w2 := ⟨_, rfl⟩
  obtain ⟨wA3, hA3⟩ : ∃ w3, wA2.setCell ⟨ab, 3, none⟩ (.map (some bk)) = w3 := ⟨_, rfl⟩
  obtain ⟨wA, hA4⟩ : ∃ w4, wA3.setCell ⟨ab, 2, none⟩ (.map (some wb)) = w4 := ⟨_, rfl⟩
  have hmk1 : (Instr.makeMap 26 none).run Try.prog w = .ok (.map (some bk)) wA1 := by rw [← hA1, ← hbk]; rfl
  have hmk2 : (Instr.makeMap 61 none).run Try.prog wA1 = .ok (.map (some wb)) wA2 := by rw [← hA2, ← hwb]; rfl
  have hb1 : Below w.heap.size w wA1 := by rw [← hA1]; exact below_alloc _ _
  have hb2 : Below wA1.heap.size wA1 wA2 := by rw [← hA2]; exact below_alloc _ _
  have hb12 : Below w.heap.size w wA2 := hb1.trans (hb2.mono hb1.size)
  have hz1 : wA1.heap.size = bk + 1 := by rw [← hA1, World.size_alloc, hbk]
  have hz2 : wA2.heap.size = bk + 1 + 1 := by rw [← hA2, World.size_alloc, hz1]
  have hk4 : Keep (fun k => k = ab) wA2 wA := by
    rw [← hA4, ← hA3]
    exact (Keep.setCell (G := fun k => k = ab) _ (p := ⟨ab, 3, none⟩) rfl _).trans (Keep.setCell (G := fun k => k = ab) _ (p := ⟨ab, 2, none⟩) rfl _)
  have hal0 : ab < w.heap.size := ho0.abLt (Below.refl _ _)
  have c30 : w.cell? ⟨ab, 3, none⟩ = some (.map none) := (ho0.preCell 3 (by show 3 < 4; omega)).1
  have p3 := ((ho0.below hb12).preCell 3 (by show 3 < 4; omega))
  have p2 := ((ho0.below hb12).preCell 2 (by show 2 < 4; omega))
  have q3 : wA2.cell? ⟨ab, 3, none⟩ = some (.map none) := p3.1
  have f3 := p3.2
  have q2 : wA3.cell? ⟨ab, 2, none⟩ = some (.map none) := by
    rw [← hA3, World.cell?_setCell_other _ _ _ _ (by simp)]; exact p2.1
  have f2 : wA3.frozen? ⟨ab, 2, none⟩ = false := by
    rw [← hA3]
    have := p2.2
    exact frz_set wA2 ab 3 2 (.map (some bk)) this
  have ho : OrS (plI a b (.map (some wb)) (.map (some bk))) 97 99 MPN W ab LA.length N sets (CI LA) (OI X (.map (some wb)) (.map (some bk)) (fun _ => none)) wA := by
    refine (ho0.belowO (O' := OI X (.map (some wb)) (.map (some bk)) (fun _ => none)) hb12 (fun k hk => ?_)).rest hk4 (Ne.symm (plI a b (.map none) (.map none)).n3) (Ne.symm (plI a b (.map none) (.map none)).n4) (fun v mp hr => ?_)
    · rcases hk with hk | hk | hk | ⟨_, _, _, hk⟩
      · exact ⟨Nat.lt_of_lt_of_le (ho0.oth k (.inl hk)) hb12.size, .inl (.inl hk)⟩
      · injection hk with hk; injection hk with hk; exact ⟨by omega, .inr (by omega)⟩
      · injection hk with hk; injection hk with hk; exact ⟨by omega, .inr (by omega)⟩
      · cases hk
    · rw [← hA4, ← hA3]
      exact (Row.put (Row.put hr 3 _) 2 _)
  have hk1 : Keep (fun _ => False) w wA2 := .of_below hb12
  have m1A : MapK MWI wA wb N (fun _ => none) := ((by rw [← hA2, ← hwb]; exact MapK.new MWI wA1 : MapK MWI wA2 wb 0 (fun _ => none)).keep hk4 (by omega)).mono (Nat.zero_le N)
  have m2A : MapC MBI wA bk N 0 (fun _ => none) := ((((by rw [← hA1, ← hbk]; exact MapC.new MBI w : MapC MBI wA1 bk 0 0 (fun _ => none)).below hb2).keep hk4 (by omega)).mono (Nat.zero_le N))
  have hne0 : wb ≠ bk := by omega
  obtain ⟨L, hL0⟩ : ∃ L : List Cn, L = [] := ⟨_, rfl⟩
  obtain ⟨F, hF0⟩ : ∃ F : Int → Option ByteArray, F = fun _ => none := ⟨_, rfl⟩
  obtain ⟨G, hG0⟩ : ∃ G : ByteArray → Option SlT, G = fun _ => none := ⟨_, rfl⟩
  rw [← hG0] at ho m1A
  rw [← hF0] at m2A
  have e9 : ([] : List Cn) ++ [⟨nm, c, ti, tu⟩] = L ++ [⟨nm, c, ti, tu⟩] := by rw [hL0]
  rw [e9]
  have hm : IdM wA (.map (some wb)) (.map (some bk)) N L F G := by
    subst hL0 hF0 hG0
    exact ⟨.inr ⟨wb, bk, rfl, rfl, hne0, m1A, m2A⟩, fun c nm => ⟨(fun h => by cases h), fun ⟨_, h, _⟩ => by cases h⟩, fun _ _ => rfl, fun _ _ h => (by cases h), fun _ _ _ _ _ _ _ h => (by cases h)⟩
  have hown : ∀ k, OwnI (.map (some wb)) (.map (some bk)) G k → W.heap.size ≤ k ∧ ¬ X k := fun k hk => by
    have hwz := ho0.bel.size
    have : bk ≤ k := by
      rcases hk with hk | hk | ⟨_, _, _, hk⟩
      · injection hk with hk; injection hk with hk; omega
      · injection hk with hk; injection hk with hk; omega
      · rw [hG0] at hk; cases hk
    exact ⟨by omega, fun hx => by have := ho0.oth k (.inl hx); omega⟩
  have hl : L.length ≤ 100000 := by rw [hL0]; simp
  have hc : ∀ e ∈ L, e.cn ≠ c := fun e he => by rw [hL0] at he; cases he
  have HKA : Hid (Keep (fun k => ¬ X k) w wA) := ((Keep.of_below hb12).trans (hk4.more (fun k _ e => by rw [e]; exact fun hx => ho0.abO (.inl hx))))
  have hq : (binOp .eql 26 (.map none) (.map none)).run Try.prog w = .ok (.bool true) w := by kernel_rfl
  clear ho0 hb1 hb2 hb12 hz1 hz2 hk4 hk1 m1A m2A hne0 hL0 hF0 hG0 p2 p3 e9 hal0 hA1 hA2 hbk hwb
  obtain ⟨i0, hi, hz0, hz1, hz2⟩ := info_parts infoInt
  obtain ⟨hne, m1, m2⟩ : wb ≠ bk ∧ MapK MWI wA wb N G ∧ MapC MBI wA bk N L.length F := by
    rcases hm.mp with ⟨e1, _⟩ | ⟨wb', bk', e1, e2, h3, h4, h5⟩
    · cases e1
    · injection e1 with e1
      injection e1 with e1
      injection e2 with e2
      injection e2 with e2
      subst e1 e2
      exact ⟨h3, h4, h5⟩
  have hF : F c = none := by
    cases hf : F c with
    | none => rfl
    | some nm' =>
      obtain ⟨e, he, h1, _⟩ := (hm.fF _ _).1 hf
      exact absurd h1 (hc e he)
  have hle : (ofI L nm).length ≤ 100000 := by
    have : (ofI L nm).length ≤ L.length := by unfold ofI; rw [List.length_map]; exact List.length_filter_le _ _
    omega
  obtain ⟨z, lz, hz⟩ := hm.look (nm := nm) hnm
  have hzo : wA.ownsRow 0 3 1 (slV z) ((ofI L nm).map (Value.int .i64)).length ((ofI L nm).map (Value.int .i64)) := by
    rcases hz with ⟨rfl, h0⟩ | ⟨b1, c1, cs1, rfl, hG1, _, q1, q2, q3, q4⟩
    · rw [h0]; exact World.ownsRow_nil _ _ _ _
    · rw [List.length_map]; exact own_fst q1 q2 q3 q4
  have hzb : ∀ k, (slV z).ownBlock = some k → (∃ n0 c0, G nm = some (some (k, n0, c0))) ∧ OwnI (.map (some wb)) (.map (some bk)) G k ∧ k ≠ wb ∧ k ≠ bk ∧ k ≠ ab := fun k hk => by
    rcases hz with ⟨rfl, h0⟩ | ⟨b1, c1, cs1, rfl, hG1, _, q1, q2, q3, q4⟩
    · cases hk
    · have : b1 = k := by injection hk
      subst this
      exact ⟨⟨_, _, hG1⟩, .inr (.inr ⟨_, _, _, hG1⟩), (m1.ne_row q1).symm, (m2.k.ne_row q1).symm, fun e => ho.abO (by rw [← e]; exact .inr (.inr (.inr ⟨_, _, _, hG1⟩)))⟩
  have hxl : ((ofI L nm).map (Value.int .i64)).length = (ofI L nm).length := List.length_map _
  obtain ⟨xs, hxs⟩ : ∃ xs, (ofI L nm).map (Value.int .i64) = xs := ⟨_, rfl⟩
  rw [hxs] at hzo hxl
  have hab : ab ≠ bk ∧ ab ≠ wb := ⟨fun e2 => ho.abO (by rw [e2]; exact .inr (.inr (.inl rfl))), fun e2 => ho.abO (by rw [e2]; exact .inr (.inl rfl))⟩
  have hal : ab < wA.heap.size := ho.abLt (Below.refl _ _)
  have c2 : wA.cell? ⟨ab, 2, none⟩ = some (.map (some wb)) := (ho.preCell 2 (by show 2 < 4; omega)).1
  have c3 : wA.cell? ⟨ab, 3, none⟩ = some (.map (some bk)) := (ho.preCell 3 (by show 3 < 4; omega)).1
  have HXS := Lib.hid hxs
  have HXL := Lib.hid hxl
  have hxb : xs.length ≤ 100000 := by omega
  have HO := Lib.hid ho
  have HM := Lib.hid hm
  have H1 := Lib.hid m1
  have H2 := Lib.hid m2
  have HOW := Lib.hid hown
  have HNE : Hid (wb ≠ bk) := hne
  have HFN := Lib.hid hF
  have HCW : Hid (KN.ok c) := hcw
  have HNM : Hid (KS.ok nm) := hnm
  have HZB := Lib.hid hzb
  have HZO := Lib.hid hzo
  have HAB : Hid (ab ≠ bk ∧ ab ≠ wb) := hab
  have HAL : Hid (ab < wA.heap.size) := hal
  have HC2 := Lib.hid c2
  have HLZ : Hid (∀ w9, MapK MWI w9 wb N G → (Instr.lookup 61 (.map (some wb)) (.string nm) false).run Try.prog w9 = .ok (slV z) w9) := fun w9 h9 => by
    have := h9.look (s := nm) hnm
    rcases hz with ⟨rfl, h0⟩ | ⟨b1, c1, cs1, rfl, hG1, _⟩
    · have hg0 : G nm = none := by
        cases hg : G nm with
        | none => rfl
        | some y =>
          obtain ⟨_, _, _, _, q, _⟩ := hm.yes nm y hg
          rw [h0] at q; simp at q
      rw [hg0] at this; exact this
    · rw [hG1] at this; exact this
  have HNN : Hid (N < maxLen) := by show N < maxLen; unfold maxLen; omega
  have HCC : Hid (∀ e ∈ L, e.cn ≠ c) := hc
  clear ho hm m1 m2 hown hne hF hcw hnm hzb hzo hab hal hz lz hxs hxl hc c2
  go_enter Try.func23, Try.ntmps23
  go_wp2_with (at_mapUpdate; refine wpl_storeC MBI _ rfl _ _ _ rfl bk N L.length F rfl H2.out HNN.out c nm rfl rfl HCW.out ?_; intro w4 m4 g4; have HK4 : Hid (Keep (fun x => x = bk) wA w4) := Keep.turnedK g4 rfl; have HM4 : Hid (MapC MBI w4 bk (N + 1) (L.length + 1) (updK F c (some nm))) := (by have := m4; rw [HFN.out] at this; exact this); clear m4 g4)
  have H14 := Lib.hid (H1.out.keep HK4.out HNE.out)
  have x2 : w4.cell? ⟨ab, 2, none⟩ = some (.map (some wb)) := (keep_cellI HK4.out HAL.out HAB.out.1 2).trans HC2.out
  have HAB4 : Hid (ab < w4.heap.size ∧ (slV z).ownBlock ≠ some ab) := ⟨Nat.lt_of_lt_of_le HAL.out HK4.out.size, fun e => (HZB.out ab e).2.2.2.2 rfl⟩
  have HO4 : Hid (w4.ownsRow 0 3 1 (slV z) xs.length xs) := own_keep HZO.out HK4.out (fun k hk e => (HZB.out k hk).2.2.2.1 e)
  have HLK : Hid (∀ w9, Keep (fun k => (slV z).ownBlock = some k) w4 w9 → (Instr.lookup 61 (.map (some wb)) (.string nm) false).run Try.prog w9 = .ok (slV z) w9) := fun w9 hk9 => HLZ.out w9 (H14.out.keep hk9 (fun e => (HZB.out wb e).2.2.1 rfl))
  clear c3 hq
  refine region_mixt 14 [some (.pointer (some ⟨ab, 0, none⟩)), some (.pointer (some ⟨ab, 0, none⟩)), some (.pointer (some ⟨ab, 2, none⟩)), some (.map (some wb)), some (.string nm), some (.pointer (some ⟨ab, 0, none⟩)), some (.pointer (some ⟨ab, 0, none⟩)), some (.pointer (some ⟨ab, 2, none⟩)), some (.map (some wb)), some (.string nm), some (slV z), some (.int .i64 c), none, none]
    [[false, false, false, false, false, false, false, false, false, false, false, false, false, false], [true, false, false, false, false, false, false, false, false, false, false, false, false, false], [false, true, false, false, false, false, false, false, false, false, false, false, false, false], [false, false, true, false, false, false, false, false, false, false, false, false, false, false], [false, false, false, false, false, false, false, false, false, false, false, false, false, false], [false, false, false, false, false, false, false, false, false, false, false, false, false, false], [false, false, false, false, false, true, false, false, false, false, false, false, false, false], [false, false, false, false, false, false, true, false, false, false, false, false, false, false], [false, false, false, false, false, false, false, true, false, false, false, false, false, false], [false, false, false, false, false, false, false, false, false, false, false, false, false, false], [false, false, false, false, false, false, false, false, true, true, false, false, false, false], [false, false, false, false, false, false, false, false, false, false, false, false, false, false], [false, false, false, false, false, false, false, false, false, false, false, true, false, false], [false, false, false, false, false, false, false, false, false, false, true, false, true, false]]
    (fun L x w1 => InS w4 (slV z) xs c L x w1)
    (by kernel_rfl) (by kernel_rfl) (by kernel_rfl) (by kernel_rfl) (by kernel_rfl) (by decide) ?_ ?_ ?_
  · intro x
    exact InS.start HO4.out
  · simp only [List.take_succ_cons, List.take_zero]
    refine ⟨?_, ?_, ?_, ?_, ?_, ?_, ?_, ?_, ?_, ?_, ?_, ?_, ?_, ?_, trivial⟩
    all_goals
      intro L x w9 hS hl hp K9 hK9
      have hs : InS w4 (slV z) xs c L x w9 := hS
      clear hS
      have d2 := hs.cell HAB4.out.1 HAB4.out.2 2 x2
      replace hK9 := hK9.out
      simp only [actMix, pickV, List.tail_cons, List.headD_cons, Act.put, List.setIfInBounds_toArray, List.set_cons_zero, List.set_cons_succ] at hK9 ⊢
    · clear hp
      go_simp
      with_reducible refine hK9 _ ?_
      exact hs.next 0 _ (by decide) (by decide)
    · clear hp
      go_simp
      with_reducible refine hK9 _ ?_
      exact hs.next 1 _ (by decide) (by decide)
    · clear hp
      go_simp
      with_reducible refine hK9 _ ?_
      exact hs.next 2 _ (by decide) (by decide)
    · clear hp
      go_simp
      with_reducible refine hK9 _ ?_
      exact hs.next 3 _ (by decide) (by decide)
    · clear hp
      go_simp
      with_reducible refine hK9 _ ?_
      exact hs.next 4 _ (by decide) (by decide)
    · clear hp
      go_simp
      with_reducible refine hK9 _ ?_
      exact hs.next 5 _ (by decide) (by decide)
    · clear hp
      go_simp
      with_reducible refine hK9 _ ?_
      exact hs.next 6 _ (by decide) (by decide)
    · clear hp
      go_simp
      with_reducible refine hK9 _ ?_
      exact hs.next 7 _ (by decide) (by decide)
    · clear hp
      go_simp
      with_reducible refine hK9 _ ?_
      exact hs.next 8 _ (by decide) (by decide)
    · clear hp
      go_simp
      with_reducible refine hK9 _ ?_
      exact hs.next 9 _ (by decide) (by decide)
    · clear hp
      have lk9 := HLK.out w9 hs.keep
      go_simp
      with_reducible refine hK9 _ ?_
      exact hs.next 10 _ (by decide) (by decide)
    · clear hp
      go_simp
      with_reducible refine hK9 _ ?_
      exact hs.next 11 _ (by decide) (by decide)
    · clear hp
      have h13 : L 13 = false := hs.no13 hl
      go_simp
      with_reducible refine hK9 _ _ ?_
      exact hs.made h13 hl
    · have h12 := allL_mem hp 12 (by decide +kernel)
      obtain ⟨b9, hx9, hc9⟩ := hs.p12 h12 hl
      have ho9 := hs.own hl
      clear hp
      rw [hx9] at hK9 ⊢
      rw [if_pos (by rfl)]
      refine wp_append_lies _ _ _ 30 rfl 0 3 i0 (.int .i64 0) 1 8 Try.underlying30 hi hz0 hz1 hz2 rfl (by decide) _ _ _ rfl ho9 ⟨b9, 0, none⟩ 1 1 [.int .i64 c] rfl rfl hc9 (by intro u hu; simp at hu; subst hu; rfl) (by decide) (by unfold maxLen; omega) (by omega) (Nat.zero_le _) _ rfl ?_
      intro g5 k5 w5 hown5 hgrow5 hwh5 hlt5
      simp only [Act.put, List.setIfInBounds_toArray, List.set_cons_zero, List.set_cons_succ]
      with_reducible refine hK9 _ _ ?_
      exact hs.grew h12 hown5 hgrow5 hwh5
  intro LL x w9 hS hL
  have hs : InS w4 (slV z) xs c LL x w9 := hS
  clear hS
  simp only [actMix, pickV, List.tail_cons, List.headD_cons, Act.put, List.setIfInBounds_toArray, List.set_cons_zero, List.set_cons_succ, List.replicate_succ, List.replicate_zero, List.drop_succ_cons, List.drop_zero, List.take_succ_cons, List.take_zero]
  have h13 := hL 13 (by decide)
  obtain ⟨-, g5, k5, hx5, hown5, hwh5⟩ := hs.p13 h13
  have HKE := Lib.hid hs.keep
  have HOW5 := Lib.hid hown5
  have HWH := Lib.hid hwh5
  clear hs hL h13 hown5 hwh5 x2
  generalize x 12 = x12
  generalize x 13 = x13 at hx5 ⊢
  subst hx5
  have H19 := Lib.hid (H14.out.keep HKE.out (fun e => (HZB.out wb e).2.2.1 rfl))
  have HM9 := Lib.hid (HM4.out.keep HKE.out (fun e => (HZB.out bk e).2.2.2.1 rfl))
  have HEND : Hid (∀ w5, MapK MWI w5 wb (N + 1) (updK G nm (some (some (g5, xs.length + 1, k5)))) → Keep (fun x => x = wb) w9 w5 → IdS W X ab a b (N + 1) sets LA (L ++ [⟨nm, c, ti, tu⟩]) w5 ∧ Keep (fun k => ¬ X k) w w5) := fun w5 m5 hk5 => by
    have hk : Keep (fun k => k = wb ∨ k = bk ∨ ∃ n0 c0, G nm = some (some (k, n0, c0))) wA w5 := ((HK4.out.more (fun k _ e => .inr (.inl e))).trans (HKE.out.more (fun k _ e => .inr (.inr (HZB.out k e).1)))).trans (hk5.more (fun k _ e => .inl e))
    have hgb : (∃ n0 c0, G nm = some (some (g5, n0, c0))) ∨ wA.heap.size ≤ g5 := HWH.out.imp (fun e => (HZB.out g5 e).1) (fun e => Nat.le_trans HK4.out.size e)
    have how : w9.ownsRow 0 3 1 (.slice (some ⟨g5, 0, none⟩) (xs.length + 1) k5) (xs.length + 1) ((ofI L nm ++ [c]).map (Value.int .i64)) := by
      rw [List.map_append, HXS.out]; exact HOW5.out
    obtain ⟨-, cs5, r1, r2, r3, r4⟩ := fst_own how
    have hr5 := r1.keep hk5 (H19.out.ne_row r1).symm
    have hm5 := HM9.out.keep hk5 (fun e2 => HNE.out e2.symm)
    rw [HXL.out] at m5
    have hid := IdM.added (ti := ti) (tu := tu) HM.out HCC.out HNE.out hgb hk m5 hm5 hr5 r2 r3 r4
    have hin : ∀ k, (k = wb ∨ k = bk ∨ ∃ n0 c0, G nm = some (some (k, n0, c0))) → OwnI (.map (some wb)) (.map (some bk)) G k := fun k hk => by
      rcases hk with rfl | rfl | ⟨n0, c0, hk⟩
      · exact .inl rfl
      · exact .inr (.inl rfl)
      · exact .inr (.inr ⟨_, _, _, hk⟩)
    have hsub : ∀ k, OwnI (.map (some wb)) (.map (some bk)) (updK G nm (some (some (g5, (ofI L nm).length + 1, k5)))) k → OwnI (.map (some wb)) (.map (some bk)) G k ∨ wA.heap.size ≤ k ∧ k < w5.heap.size := fun k hk => by
      rcases hk with hk | hk | ⟨x, n, c1, hk⟩
      · exact .inl (.inl hk)
      · exact .inl (.inr (.inl hk))
      · by_cases hx : x = nm
        · subst hx
          rw [updK_same] at hk
          injection hk with hk
          injection hk with hk
          injection hk with hk _
          subst hk
          rcases hgb with ⟨n0, c0, h0⟩ | h0
          · exact .inl (.inr (.inr ⟨_, _, _, h0⟩))
          · exact .inr ⟨h0, hr5.lt⟩
        · rw [updK_other G _ hx] at hk
          exact .inl (.inr (.inr ⟨_, _, _, hk⟩))
    refine ⟨⟨_, _, _, _, (HO.out.keepO hk (fun k hk2 => ⟨.inr (hin k hk2), (HOW.out k (hin k hk2)).1⟩) (fun k hk2 => ?_)).moreNI (Nat.le_succ N), hid, fun k hk2 => ?_⟩, (HKA.out).trans (hk.more (fun k _ hk2 => (HOW.out k (hin k hk2)).2))⟩
    · rcases hk2 with hk2 | hk2
      · exact ⟨Nat.lt_of_lt_of_le (HO.out.oth k (.inl hk2)) hk.size, .inl (.inl hk2)⟩
      · rcases hsub k hk2 with h | h
        · exact ⟨Nat.lt_of_lt_of_le (HO.out.oth k (.inr h)) hk.size, .inl (.inr h)⟩
        · exact ⟨h.2, .inr h.1⟩
    · rcases hsub k hk2 with h | h
      · exact HOW.out k h
      · refine ⟨Nat.le_trans HO.out.bel.size h.1, fun hx => ?_⟩
        have := HO.out.oth k (.inl hx)
        omega
  go_wp2_with (at_mapUpdate; refine wpl_storeK MWI _ rfl _ _ _ rfl wb N G rfl H19.out HNN.out nm (some (g5, xs.length + 1, k5)) rfl rfl HNM.out ?_; intro w5 m5 g5'; have HFIN := Lib.hid (HEND.out w5 m5 (Keep.turnedK g5' rfl)); clear m5 g5')
  go_end0
  exact ⟨rfl, HFIN.out⟩
end Go.Proofs.Ytcdgmhglpcokdaa
