/- BLAKE2s, the reference: mix. -/
import Derived.Test.YtllmlngfmcbaaaaGreatDoorBSum
import Derived.OwnWalk
namespace Go.Proofs.YtllmlngfmcbaaaaGreatDoor
open Go.RowKit

/-- A slice of so many words. -/
def SW (n : Nat) (w : World) (v : Value) (f : Nat → Int) : Prop := ∃ g cap, v = .slice (some ⟨g, 0, none⟩) n cap ∧ g < w.heap.size ∧ n ≤ cap ∧ Words n w g f
theorem SW.below {n : Nat} {w w' : World} {v : Value} {f : Nat → Int} (h : SW n w v f) (hb : Below w.heap.size w w') : SW n w' v f := by
  obtain ⟨g, cap, hv, hg, hc, hw⟩ := h
  exact ⟨g, cap, hv, Nat.lt_of_lt_of_le hg hb.size, hc, hw.below hb hg⟩
theorem SW.congr {n : Nat} {w : World} {v : Value} {f f' : Nat → Int} (h : SW n w v f) (he : ∀ i, i < n → f i = f' i) : SW n w v f' := by
  obtain ⟨g, cap, hv, hg, hc, hw⟩ := h
  exact ⟨g, cap, hv, hg, hc, hw.congr he⟩
theorem info42 : (Tryz.prog.info? 88).map (fun i => (i.zero, i.size, i.bytes)) = some (some (.int .u32 0), 1, 4) := by kernel_rfl
theorem sw_of_row {w : World} {B n k : Nat} {v : Value} {f : Nat → Int} (hn : 0 < n) (hk : k = n) (h : w.ownsRow B 88 1 v k (wordsCells n f)) : SW n w v f ∧ ∀ g, v.ownBlock = some g → B ≤ g := by
  subst hk
  refine ⟨?_, fun g hg => (h.lt g hg).1⟩
  obtain ⟨hl, h | ⟨g, cap, cur, rfl, hB, hg, hc, hm, hs, ht⟩⟩ := h
  · omega
  · refine ⟨g, cap, rfl, (Array.getElem?_eq_some_iff.1 hg).1, hc, fun i hi => ?_⟩
    have h1 := World.ownsRow.cells (w := w) (base := B) (e := 88) (size := 1) (v := .slice (some ⟨g, 0, none⟩) k cap) (n := k) (xs := wordsCells k f) ⟨hl, .inr ⟨g, cap, cur, rfl, hB, hg, hc, hm, hs, ht⟩⟩ rfl i (.int .u32 (f i)) (by simp [wordsCells, hi])
    rw [Addr.add_mid, Nat.zero_add] at h1
    exact ⟨h1, by simp [World.frozen?, hg]⟩

theorem Only.drewN {bk : Nat} {w w' : World} (h : Only bk w w') (n : Nat) : Only bk w (w'.drewN n) := ⟨h.os, h.tape, h.output, h.size, h.block⟩
theorem a32_assoc (a b c : Int) : a32 (a32 a b) c = a32 a (a32 b c) := by unfold a32; omega

set_option maxRecDepth 100000 in
set_option maxHeartbeats 2000000 in
theorem rmixBody (F : Nat) (hF : F = 97) (v : Value) (f : Nat → Int) (a b c d : Nat) (x y : Int) (ha : (a : Int) < 16) (hb : (b : Int) < 16) (hc : (c : Int) < 16) (hd : (d : Int) < 16)
    (w : World) (h : SW 16 w v f) :
    Calls Tryz.prog F #[v, .int .i64 a, .int .i64 b, .int .i64 c, .int .i64 d, .int .u32 x, .int .u32 y] w fun e w' => ∃ v', e = .returned v' ∧ SW 16 w' v' (mixF f a b c d x y) ∧ Below w.heap.size w w' := by
  subst hF
  have ha0 : (0 : Int) ≤ a := by omega
  have hb0 : (0 : Int) ≤ b := by omega
  have hc0 : (0 : Int) ≤ c := by omega
  have hd0 : (0 : Int) ≤ d := by omega
  obtain ⟨i0, hi, hz0, hz1, hz2⟩ := info_parts info42
  obtain ⟨g0, cap0, rfl, hg0, hcap0, hw0⟩ := h
  have hrow : ∀ (T : TypeId) j u, (wordsCells 16 f)[j]? = some u → (w.alloc (.cells #[] T)).cell? ((⟨g0, 0, none⟩ : Addr).add j) = some u := fun T j u hu => by
    rw [Addr.add_mid]
    exact wordsCells_range (hw0.below (below_alloc _ _) hg0) j u hu
  have HR := Lib.hid hrow
  have hlen := wordsCells_length 16 f
  have hone : ∀ u ∈ wordsCells 16 f, u.oneCell' = true := fun u hu => by
    have := wordsCells_one 16 f
    rw [Array.all_eq_true_iff_forall_mem] at this
    exact this u (by simpa using hu)
  clear hw0 hrow
  go_enter Tryz.func97, Tryz.ntmps97
  go_wp2_with (at_builtin; refine wpList_append_own _ rfl _ _ 100 rfl w.heap.size 88 i0 (.int .u32 0) 1 4 Tryz.underlying100 hi hz0 hz1 hz2 rfl (by decide) _ _ _ rfl (World.ownsRow_made w #[] 0 (Nat.le_refl _) (Nat.zero_le _) rfl) ⟨g0, 0, none⟩ 16 cap0 (wordsCells 16 f) rfl hlen (HR.out _) hone (by unfold maxLen; omega) (by omega) (by simp) ?_)
  intro v' w1 hown hgrow _

  obtain ⟨⟨g, cap, rfl, hg, hcap, hw1⟩, hB⟩ := sw_of_row (by decide) rfl hown
  have hBg : w.heap.size ≤ g := hB g rfl
  have hb1 : Below w.heap.size w w1 := by
    refine ((Below.refl w.heap.size w).alloc (Nat.le_refl _) (.cells #[] 88)).grown hgrow (by simp) (fun k hk => ?_)
    simp [Value.ownBlock] at hk
    omega
  have H0 := Lib.hid hw1
  have G0 := Lib.hid (Only.refl g w1)
  have HB := Lib.hid hb1
  clear hown hgrow hB hw1 hb1 HR hlen hone hi hz0 hz1 hz2
  go_wp2_with fail
  refine region_mixt 13 [some (.slice (some ⟨g, 0, none⟩) 16 cap), some (.int .i64 (a : Int)), some (.slice (some ⟨g, 0, none⟩) 16 cap), some (.int .i64 (a : Int)), some (.pointer (some ⟨g, a, none⟩)), some (.int .u32 (f a)), some (.slice (some ⟨g, 0, none⟩) 16 cap), some (.int .i64 (b : Int)), some (.pointer (some ⟨g, b, none⟩)), some (.int .u32 (f b)), some (.int .u32 (a32 (f a) (f b))), some (.int .u32 x), some (.int .u32 (a32 (a32 (f a) (f b)) x))]
    [[false, false, false, false, false, false, false, false, false, false, false, false, false], [false, false, false, false, false, false, false, false, false, false, false, false, false], [false, false, false, false, false, false, false, false, false, false, false, false, false], [false, false, false, false, false, false, false, false, false, false, false, false, false], [false, false, true, true, false, false, false, false, false, false, false, false, false], [false, false, false, false, true, false, false, false, false, false, false, false, false], [false, false, false, false, false, false, false, false, false, false, false, false, false], [false, false, false, false, false, false, false, false, false, false, false, false, false], [false, false, false, false, false, false, true, true, false, false, false, false, false], [false, false, false, false, false, false, false, false, true, false, false, false, false], [false, false, false, false, false, true, false, false, false, true, false, false, false], [false, false, false, false, false, false, false, false, false, false, false, false, false], [false, false, false, false, false, false, false, false, false, false, true, true, false]]
    (fun _ _ w9 => Hid (Words 16 w9 g f) ∧ Hid (Only g w1 w9))
    (by kernel_rfl) (by kernel_rfl) (by kernel_rfl) (by kernel_rfl) (by kernel_rfl) (by decide) ?_ ?_ ?_
  · intro _
    exact ⟨H0.out.drew, G0.out.drew⟩
  · simp only [List.take_succ_cons, List.take_zero]
    refine ⟨?_, ?_, ?_, ?_, ?_, ?_, ?_, ?_, ?_, ?_, ?_, ?_, ?_, trivial⟩
    all_goals
      intro L z w9 hS hl hp K hK
      have c1 := hS.1
      have c2 := hS.2
      have k1 := (c1.out a (by omega)).1
      have k2 := (c1.out b (by omega)).1
      clear H0 G0 hS hl hp
      replace hK := hK.out
      simp only [actMix, pickV, List.tail_cons, List.headD_cons, Act.put, List.setIfInBounds_toArray, List.set_cons_zero, List.set_cons_succ] at hK ⊢
    · go_simp
      with_reducible refine hK _ ?_
      exact ⟨c1, c2⟩
    · go_simp
      with_reducible refine hK _ ?_
      exact ⟨c1, c2⟩
    · go_simp
      with_reducible refine hK _ ?_
      exact ⟨c1, c2⟩
    · go_simp
      with_reducible refine hK _ ?_
      exact ⟨c1, c2⟩
    · go_simp
      with_reducible refine hK _ ?_
      exact ⟨c1, c2⟩
    · go_simp
      with_reducible refine hK _ ?_
      exact ⟨c1, c2⟩
    · go_simp
      with_reducible refine hK _ ?_
      exact ⟨c1, c2⟩
    · go_simp
      with_reducible refine hK _ ?_
      exact ⟨c1, c2⟩
    · go_simp
      with_reducible refine hK _ ?_
      exact ⟨c1, c2⟩
    · go_simp
      with_reducible refine hK _ ?_
      exact ⟨c1, c2⟩
    · go_simp
      refine hK _ ?_
      exact ⟨c1, c2⟩
    · go_simp
      with_reducible refine hK _ ?_
      exact ⟨c1, c2⟩
    · go_simp
      refine hK _ ?_
      exact ⟨c1, c2⟩
  · intro L z w9 hS hL
    have c1 := hS.1
    have c2 := hS.2
    have k1 := (c1.out a (by omega)).1
    have k3 := (c1.out a (by omega)).2
    clear hS H0 G0 hL
    simp only [actMix, pickV, List.tail_cons, List.headD_cons, Act.put, List.setIfInBounds_toArray, List.set_cons_zero, List.set_cons_succ, List.replicate_succ, List.replicate_zero, List.drop_succ_cons, List.drop_zero, List.take_succ_cons, List.take_zero]
    obtain ⟨r0, hr⟩ : ∃ r, r = a32 (a32 (f a) (f b)) x := ⟨_, rfl⟩
    rw [← hr]
    have hu : upd f a (a32 (f a) (a32 (f b) x)) = upd f a r0 := by rw [hr]; rw [a32_assoc]
    obtain ⟨f1, hf⟩ : ∃ q, q = upd f a (a32 (f a) (a32 (f b) x)) := ⟨_, rfl⟩
    have h1 : Words 16 (w9.setCell ⟨g, a, none⟩ (.int .u32 r0)) g f1 := by rw [hf, hu]; exact c1.out.put a _
    have H1 := Lib.hid h1
    have G1 := Lib.hid (c2.out.put a (.int .u32 r0))
    have E1 := Lib.hid hf
    clear hr hu hf h1
    go_wp2_with fail
    clear c1 c2 k1 k3
    generalize World.setCell w9 _ _ = W1 at *
    refine region_mixt 12 [some (.slice (some ⟨g, 0, none⟩) 16 cap), some (.int .i64 (d : Int)), some (.slice (some ⟨g, 0, none⟩) 16 cap), some (.int .i64 (d : Int)), some (.pointer (some ⟨g, d, none⟩)), some (.int .u32 (f1 d)), some (.slice (some ⟨g, 0, none⟩) 16 cap), some (.int .i64 (a : Int)), some (.pointer (some ⟨g, a, none⟩)), some (.int .u32 (f1 a)), some (.int .u32 (x32 (f1 d) (f1 a))), some (.int .u32 (ror (x32 (f1 d) (f1 a)) 16))]
      [[false, false, false, false, false, false, false, false, false, false, false, false], [false, false, false, false, false, false, false, false, false, false, false, false], [false, false, false, false, false, false, false, false, false, false, false, false], [false, false, false, false, false, false, false, false, false, false, false, false], [false, false, true, true, false, false, false, false, false, false, false, false], [false, false, false, false, true, false, false, false, false, false, false, false], [false, false, false, false, false, false, false, false, false, false, false, false], [false, false, false, false, false, false, false, false, false, false, false, false], [false, false, false, false, false, false, true, true, false, false, false, false], [false, false, false, false, false, false, false, false, true, false, false, false], [false, false, false, false, false, true, false, false, false, true, false, false], [false, false, false, false, false, false, false, false, false, false, true, false]]
      (fun _ _ w9 => Hid (Words 16 w9 g f1) ∧ Hid (Only g w1 w9))
      (by kernel_rfl) (by kernel_rfl) (by kernel_rfl) (by kernel_rfl) (by kernel_rfl) (by decide) ?_ ?_ ?_
    · intro _
      exact ⟨H1.out.drew, G1.out.drew⟩
    · simp only [List.take_succ_cons, List.take_zero]
      refine ⟨?_, ?_, ?_, ?_, ?_, ?_, ?_, ?_, ?_, ?_, ?_, ?_, trivial⟩
      all_goals
        intro L z w9 hS hl hp K hK
        have c1 := hS.1
        have c2 := hS.2
        have k1 := (c1.out d (by omega)).1
        have k2 := (c1.out a (by omega)).1
        clear H1 G1 hS hl hp
        replace hK := hK.out
        simp only [actMix, pickV, List.tail_cons, List.headD_cons, Act.put, List.setIfInBounds_toArray, List.set_cons_zero, List.set_cons_succ] at hK ⊢
      · go_simp
        with_reducible refine hK _ ?_
        exact ⟨c1, c2⟩
      · go_simp
        with_reducible refine hK _ ?_
        exact ⟨c1, c2⟩
      · go_simp
        with_reducible refine hK _ ?_
        exact ⟨c1, c2⟩
      · go_simp
        with_reducible refine hK _ ?_
        exact ⟨c1, c2⟩
      · go_simp
        with_reducible refine hK _ ?_
        exact ⟨c1, c2⟩
      · go_simp
        with_reducible refine hK _ ?_
        exact ⟨c1, c2⟩
      · go_simp
        with_reducible refine hK _ ?_
        exact ⟨c1, c2⟩
      · go_simp
        with_reducible refine hK _ ?_
        exact ⟨c1, c2⟩
      · go_simp
        with_reducible refine hK _ ?_
        exact ⟨c1, c2⟩
      · go_simp
        with_reducible refine hK _ ?_
        exact ⟨c1, c2⟩
      · go_simp
        refine hK _ ?_
        exact ⟨c1, c2⟩
      · go_simp
        refine (right55 _ 16 (by decide) (by decide) _).mono ?_
        rintro e w8 ⟨rfl, nq, rfl⟩
        with_reducible refine hK _ ?_
        exact ⟨Lib.hid (c1.out.drewN nq), Lib.hid (c2.out.drewN nq)⟩
    · intro L z w9 hS hL
      have c1 := hS.1
      have c2 := hS.2
      have k1 := (c1.out d (by omega)).1
      have k3 := (c1.out d (by omega)).2
      clear hS H1 G1 hL
      simp only [actMix, pickV, List.tail_cons, List.headD_cons, Act.put, List.setIfInBounds_toArray, List.set_cons_zero, List.set_cons_succ, List.replicate_succ, List.replicate_zero, List.drop_succ_cons, List.drop_zero, List.take_succ_cons, List.take_zero]
      obtain ⟨r1, hr⟩ : ∃ r, r = ror (x32 (f1 d) (f1 a)) 16 := ⟨_, rfl⟩
      rw [← hr]
      have hu : upd f1 d (ror (x32 (f1 d) (f1 a)) 16) = upd f1 d r1 := by rw [hr]
      obtain ⟨f2, hf⟩ : ∃ q, q = upd f1 d (ror (x32 (f1 d) (f1 a)) 16) := ⟨_, rfl⟩
      have h1 : Words 16 (w9.setCell ⟨g, d, none⟩ (.int .u32 r1)) g f2 := by rw [hf, hu]; exact c1.out.put d _
      have H2 := Lib.hid h1
      have G2 := Lib.hid (c2.out.put d (.int .u32 r1))
      have E2 := Lib.hid hf
      clear hr hu hf h1
      go_wp2_with fail
      clear c1 c2 k1 k3
      generalize World.setCell w9 _ _ = W2 at *
      refine region_mixt 11 [some (.slice (some ⟨g, 0, none⟩) 16 cap), some (.int .i64 (c : Int)), some (.slice (some ⟨g, 0, none⟩) 16 cap), some (.int .i64 (c : Int)), some (.pointer (some ⟨g, c, none⟩)), some (.int .u32 (f2 c)), some (.slice (some ⟨g, 0, none⟩) 16 cap), some (.int .i64 (d : Int)), some (.pointer (some ⟨g, d, none⟩)), some (.int .u32 (f2 d)), some (.int .u32 (a32 (f2 c) (f2 d)))]
        [[false, false, false, false, false, false, false, false, false, false, false], [false, false, false, false, false, false, false, false, false, false, false], [false, false, false, false, false, false, false, false, false, false, false], [false, false, false, false, false, false, false, false, false, false, false], [false, false, true, true, false, false, false, false, false, false, false], [false, false, false, false, true, false, false, false, false, false, false], [false, false, false, false, false, false, false, false, false, false, false], [false, false, false, false, false, false, false, false, false, false, false], [false, false, false, false, false, false, true, true, false, false, false], [false, false, false, false, false, false, false, false, true, false, false], [false, false, false, false, false, true, false, false, false, true, false]]
        (fun _ _ w9 => Hid (Words 16 w9 g f2) ∧ Hid (Only g w1 w9))
        (by kernel_rfl) (by kernel_rfl) (by kernel_rfl) (by kernel_rfl) (by kernel_rfl) (by decide) ?_ ?_ ?_
      · intro _
        exact ⟨H2.out.drew, G2.out.drew⟩
      · simp only [List.take_succ_cons, List.take_zero]
        refine ⟨?_, ?_, ?_, ?_, ?_, ?_, ?_, ?_, ?_, ?_, ?_, trivial⟩
        all_goals
          intro L z w9 hS hl hp K hK
          have c1 := hS.1
          have c2 := hS.2
          have k1 := (c1.out c (by omega)).1
          have k2 := (c1.out d (by omega)).1
          clear H2 G2 hS hl hp
          replace hK := hK.out
          simp only [actMix, pickV, List.tail_cons, List.headD_cons, Act.put, List.setIfInBounds_toArray, List.set_cons_zero, List.set_cons_succ] at hK ⊢
        · go_simp
          with_reducible refine hK _ ?_
          exact ⟨c1, c2⟩
        · go_simp
          with_reducible refine hK _ ?_
          exact ⟨c1, c2⟩
        · go_simp
          with_reducible refine hK _ ?_
          exact ⟨c1, c2⟩
        · go_simp
          with_reducible refine hK _ ?_
          exact ⟨c1, c2⟩
        · go_simp
          with_reducible refine hK _ ?_
          exact ⟨c1, c2⟩
        · go_simp
          with_reducible refine hK _ ?_
          exact ⟨c1, c2⟩
        · go_simp
          with_reducible refine hK _ ?_
          exact ⟨c1, c2⟩
        · go_simp
          with_reducible refine hK _ ?_
          exact ⟨c1, c2⟩
        · go_simp
          with_reducible refine hK _ ?_
          exact ⟨c1, c2⟩
        · go_simp
          with_reducible refine hK _ ?_
          exact ⟨c1, c2⟩
        · go_simp
          refine hK _ ?_
          exact ⟨c1, c2⟩
      · intro L z w9 hS hL
        have c1 := hS.1
        have c2 := hS.2
        have k1 := (c1.out c (by omega)).1
        have k3 := (c1.out c (by omega)).2
        clear hS H2 G2 hL
        simp only [actMix, pickV, List.tail_cons, List.headD_cons, Act.put, List.setIfInBounds_toArray, List.set_cons_zero, List.set_cons_succ, List.replicate_succ, List.replicate_zero, List.drop_succ_cons, List.drop_zero, List.take_succ_cons, List.take_zero]
        obtain ⟨r2, hr⟩ : ∃ r, r = a32 (f2 c) (f2 d) := ⟨_, rfl⟩
        rw [← hr]
        have hu : upd f2 c (a32 (f2 c) (f2 d)) = upd f2 c r2 := by rw [hr]
        obtain ⟨f3, hf⟩ : ∃ q, q = upd f2 c (a32 (f2 c) (f2 d)) := ⟨_, rfl⟩
        have h1 : Words 16 (w9.setCell ⟨g, c, none⟩ (.int .u32 r2)) g f3 := by rw [hf, hu]; exact c1.out.put c _
        have H3 := Lib.hid h1
        have G3 := Lib.hid (c2.out.put c (.int .u32 r2))
        have E3 := Lib.hid hf
        clear hr hu hf h1
        go_wp2_with fail
        clear c1 c2 k1 k3
        generalize World.setCell w9 _ _ = W3 at *
        refine region_mixt 12 [some (.slice (some ⟨g, 0, none⟩) 16 cap), some (.int .i64 (b : Int)), some (.slice (some ⟨g, 0, none⟩) 16 cap), some (.int .i64 (b : Int)), some (.pointer (some ⟨g, b, none⟩)), some (.int .u32 (f3 b)), some (.slice (some ⟨g, 0, none⟩) 16 cap), some (.int .i64 (c : Int)), some (.pointer (some ⟨g, c, none⟩)), some (.int .u32 (f3 c)), some (.int .u32 (x32 (f3 b) (f3 c))), some (.int .u32 (ror (x32 (f3 b) (f3 c)) 12))]
          [[false, false, false, false, false, false, false, false, false, false, false, false], [false, false, false, false, false, false, false, false, false, false, false, false], [false, false, false, false, false, false, false, false, false, false, false, false], [false, false, false, false, false, false, false, false, false, false, false, false], [false, false, true, true, false, false, false, false, false, false, false, false], [false, false, false, false, true, false, false, false, false, false, false, false], [false, false, false, false, false, false, false, false, false, false, false, false], [false, false, false, false, false, false, false, false, false, false, false, false], [false, false, false, false, false, false, true, true, false, false, false, false], [false, false, false, false, false, false, false, false, true, false, false, false], [false, false, false, false, false, true, false, false, false, true, false, false], [false, false, false, false, false, false, false, false, false, false, true, false]]
          (fun _ _ w9 => Hid (Words 16 w9 g f3) ∧ Hid (Only g w1 w9))
          (by kernel_rfl) (by kernel_rfl) (by kernel_rfl) (by kernel_rfl) (by kernel_rfl) (by decide) ?_ ?_ ?_
        · intro _
          exact ⟨H3.out.drew, G3.out.drew⟩
        · simp only [List.take_succ_cons, List.take_zero]
          refine ⟨?_, ?_, ?_, ?_, ?_, ?_, ?_, ?_, ?_, ?_, ?_, ?_, trivial⟩
          all_goals
            intro L z w9 hS hl hp K hK
            have c1 := hS.1
            have c2 := hS.2
            have k1 := (c1.out b (by omega)).1
            have k2 := (c1.out c (by omega)).1
            clear H3 G3 hS hl hp
            replace hK := hK.out
            simp only [actMix, pickV, List.tail_cons, List.headD_cons, Act.put, List.setIfInBounds_toArray, List.set_cons_zero, List.set_cons_succ] at hK ⊢
          · go_simp
            with_reducible refine hK _ ?_
            exact ⟨c1, c2⟩
          · go_simp
            with_reducible refine hK _ ?_
            exact ⟨c1, c2⟩
          · go_simp
            with_reducible refine hK _ ?_
            exact ⟨c1, c2⟩
          · go_simp
            with_reducible refine hK _ ?_
            exact ⟨c1, c2⟩
          · go_simp
            with_reducible refine hK _ ?_
            exact ⟨c1, c2⟩
          · go_simp
            with_reducible refine hK _ ?_
            exact ⟨c1, c2⟩
          · go_simp
            with_reducible refine hK _ ?_
            exact ⟨c1, c2⟩
          · go_simp
            with_reducible refine hK _ ?_
            exact ⟨c1, c2⟩
          · go_simp
            with_reducible refine hK _ ?_
            exact ⟨c1, c2⟩
          · go_simp
            with_reducible refine hK _ ?_
            exact ⟨c1, c2⟩
          · go_simp
            refine hK _ ?_
            exact ⟨c1, c2⟩
          · go_simp
            refine (right55 _ 12 (by decide) (by decide) _).mono ?_
            rintro e w8 ⟨rfl, nq, rfl⟩
            with_reducible refine hK _ ?_
            exact ⟨Lib.hid (c1.out.drewN nq), Lib.hid (c2.out.drewN nq)⟩
        · intro L z w9 hS hL
          have c1 := hS.1
          have c2 := hS.2
          have k1 := (c1.out b (by omega)).1
          have k3 := (c1.out b (by omega)).2
          clear hS H3 G3 hL
          simp only [actMix, pickV, List.tail_cons, List.headD_cons, Act.put, List.setIfInBounds_toArray, List.set_cons_zero, List.set_cons_succ, List.replicate_succ, List.replicate_zero, List.drop_succ_cons, List.drop_zero, List.take_succ_cons, List.take_zero]
          obtain ⟨r3, hr⟩ : ∃ r, r = ror (x32 (f3 b) (f3 c)) 12 := ⟨_, rfl⟩
          rw [← hr]
          have hu : upd f3 b (ror (x32 (f3 b) (f3 c)) 12) = upd f3 b r3 := by rw [hr]
          obtain ⟨f4, hf⟩ : ∃ q, q = upd f3 b (ror (x32 (f3 b) (f3 c)) 12) := ⟨_, rfl⟩
          have h1 : Words 16 (w9.setCell ⟨g, b, none⟩ (.int .u32 r3)) g f4 := by rw [hf, hu]; exact c1.out.put b _
          have H4 := Lib.hid h1
          have G4 := Lib.hid (c2.out.put b (.int .u32 r3))
          have E4 := Lib.hid hf
          clear hr hu hf h1
          go_wp2_with fail
          clear c1 c2 k1 k3
          generalize World.setCell w9 _ _ = W4 at *
          refine region_mixt 13 [some (.slice (some ⟨g, 0, none⟩) 16 cap), some (.int .i64 (a : Int)), some (.slice (some ⟨g, 0, none⟩) 16 cap), some (.int .i64 (a : Int)), some (.pointer (some ⟨g, a, none⟩)), some (.int .u32 (f4 a)), some (.slice (some ⟨g, 0, none⟩) 16 cap), some (.int .i64 (b : Int)), some (.pointer (some ⟨g, b, none⟩)), some (.int .u32 (f4 b)), some (.int .u32 (a32 (f4 a) (f4 b))), some (.int .u32 y), some (.int .u32 (a32 (a32 (f4 a) (f4 b)) y))]
            [[false, false, false, false, false, false, false, false, false, false, false, false, false], [false, false, false, false, false, false, false, false, false, false, false, false, false], [false, false, false, false, false, false, false, false, false, false, false, false, false], [false, false, false, false, false, false, false, false, false, false, false, false, false], [false, false, true, true, false, false, false, false, false, false, false, false, false], [false, false, false, false, true, false, false, false, false, false, false, false, false], [false, false, false, false, false, false, false, false, false, false, false, false, false], [false, false, false, false, false, false, false, false, false, false, false, false, false], [false, false, false, false, false, false, true, true, false, false, false, false, false], [false, false, false, false, false, false, false, false, true, false, false, false, false], [false, false, false, false, false, true, false, false, false, true, false, false, false], [false, false, false, false, false, false, false, false, false, false, false, false, false], [false, false, false, false, false, false, false, false, false, false, true, true, false]]
            (fun _ _ w9 => Hid (Words 16 w9 g f4) ∧ Hid (Only g w1 w9))
            (by kernel_rfl) (by kernel_rfl) (by kernel_rfl) (by kernel_rfl) (by kernel_rfl) (by decide) ?_ ?_ ?_
          · intro _
            exact ⟨H4.out.drew, G4.out.drew⟩
          · simp only [List.take_succ_cons, List.take_zero]
            refine ⟨?_, ?_, ?_, ?_, ?_, ?_, ?_, ?_, ?_, ?_, ?_, ?_, ?_, trivial⟩
            all_goals
              intro L z w9 hS hl hp K hK
              have c1 := hS.1
              have c2 := hS.2
              have k1 := (c1.out a (by omega)).1
              have k2 := (c1.out b (by omega)).1
              clear H4 G4 hS hl hp
              replace hK := hK.out
              simp only [actMix, pickV, List.tail_cons, List.headD_cons, Act.put, List.setIfInBounds_toArray, List.set_cons_zero, List.set_cons_succ] at hK ⊢
            · go_simp
              with_reducible refine hK _ ?_
              exact ⟨c1, c2⟩
            · go_simp
              with_reducible refine hK _ ?_
              exact ⟨c1, c2⟩
            · go_simp
              with_reducible refine hK _ ?_
              exact ⟨c1, c2⟩
            · go_simp
              with_reducible refine hK _ ?_
              exact ⟨c1, c2⟩
            · go_simp
              with_reducible refine hK _ ?_
              exact ⟨c1, c2⟩
            · go_simp
              with_reducible refine hK _ ?_
              exact ⟨c1, c2⟩
            · go_simp
              with_reducible refine hK _ ?_
              exact ⟨c1, c2⟩
            · go_simp
              with_reducible refine hK _ ?_
              exact ⟨c1, c2⟩
            · go_simp
              with_reducible refine hK _ ?_
              exact ⟨c1, c2⟩
            · go_simp
              with_reducible refine hK _ ?_
              exact ⟨c1, c2⟩
            · go_simp
              refine hK _ ?_
              exact ⟨c1, c2⟩
            · go_simp
              with_reducible refine hK _ ?_
              exact ⟨c1, c2⟩
            · go_simp
              refine hK _ ?_
              exact ⟨c1, c2⟩
          · intro L z w9 hS hL
            have c1 := hS.1
            have c2 := hS.2
            have k1 := (c1.out a (by omega)).1
            have k3 := (c1.out a (by omega)).2
            clear hS H4 G4 hL
            simp only [actMix, pickV, List.tail_cons, List.headD_cons, Act.put, List.setIfInBounds_toArray, List.set_cons_zero, List.set_cons_succ, List.replicate_succ, List.replicate_zero, List.drop_succ_cons, List.drop_zero, List.take_succ_cons, List.take_zero]
            obtain ⟨r4, hr⟩ : ∃ r, r = a32 (a32 (f4 a) (f4 b)) y := ⟨_, rfl⟩
            rw [← hr]
            have hu : upd f4 a (a32 (f4 a) (a32 (f4 b) y)) = upd f4 a r4 := by rw [hr]; rw [a32_assoc]
            obtain ⟨f5, hf⟩ : ∃ q, q = upd f4 a (a32 (f4 a) (a32 (f4 b) y)) := ⟨_, rfl⟩
            have h1 : Words 16 (w9.setCell ⟨g, a, none⟩ (.int .u32 r4)) g f5 := by rw [hf, hu]; exact c1.out.put a _
            have H5 := Lib.hid h1
            have G5 := Lib.hid (c2.out.put a (.int .u32 r4))
            have E5 := Lib.hid hf
            clear hr hu hf h1
            go_wp2_with fail
            clear c1 c2 k1 k3
            generalize World.setCell w9 _ _ = W5 at *
            refine region_mixt 12 [some (.slice (some ⟨g, 0, none⟩) 16 cap), some (.int .i64 (d : Int)), some (.slice (some ⟨g, 0, none⟩) 16 cap), some (.int .i64 (d : Int)), some (.pointer (some ⟨g, d, none⟩)), some (.int .u32 (f5 d)), some (.slice (some ⟨g, 0, none⟩) 16 cap), some (.int .i64 (a : Int)), some (.pointer (some ⟨g, a, none⟩)), some (.int .u32 (f5 a)), some (.int .u32 (x32 (f5 d) (f5 a))), some (.int .u32 (ror (x32 (f5 d) (f5 a)) 8))]
              [[false, false, false, false, false, false, false, false, false, false, false, false], [false, false, false, false, false, false, false, false, false, false, false, false], [false, false, false, false, false, false, false, false, false, false, false, false], [false, false, false, false, false, false, false, false, false, false, false, false], [false, false, true, true, false, false, false, false, false, false, false, false], [false, false, false, false, true, false, false, false, false, false, false, false], [false, false, false, false, false, false, false, false, false, false, false, false], [false, false, false, false, false, false, false, false, false, false, false, false], [false, false, false, false, false, false, true, true, false, false, false, false], [false, false, false, false, false, false, false, false, true, false, false, false], [false, false, false, false, false, true, false, false, false, true, false, false], [false, false, false, false, false, false, false, false, false, false, true, false]]
              (fun _ _ w9 => Hid (Words 16 w9 g f5) ∧ Hid (Only g w1 w9))
              (by kernel_rfl) (by kernel_rfl) (by kernel_rfl) (by kernel_rfl) (by kernel_rfl) (by decide) ?_ ?_ ?_
            · intro _
              exact ⟨H5.out.drew, G5.out.drew⟩
            · simp only [List.take_succ_cons, List.take_zero]
              refine ⟨?_, ?_, ?_, ?_, ?_, ?_, ?_, ?_, ?_, ?_, ?_, ?_, trivial⟩
              all_goals
                intro L z w9 hS hl hp K hK
                have c1 := hS.1
                have c2 := hS.2
                have k1 := (c1.out d (by omega)).1
                have k2 := (c1.out a (by omega)).1
                clear H5 G5 hS hl hp
                replace hK := hK.out
                simp only [actMix, pickV, List.tail_cons, List.headD_cons, Act.put, List.setIfInBounds_toArray, List.set_cons_zero, List.set_cons_succ] at hK ⊢
              · go_simp
                with_reducible refine hK _ ?_
                exact ⟨c1, c2⟩
              · go_simp
                with_reducible refine hK _ ?_
                exact ⟨c1, c2⟩
              · go_simp
                with_reducible refine hK _ ?_
                exact ⟨c1, c2⟩
              · go_simp
                with_reducible refine hK _ ?_
                exact ⟨c1, c2⟩
              · go_simp
                with_reducible refine hK _ ?_
                exact ⟨c1, c2⟩
              · go_simp
                with_reducible refine hK _ ?_
                exact ⟨c1, c2⟩
              · go_simp
                with_reducible refine hK _ ?_
                exact ⟨c1, c2⟩
              · go_simp
                with_reducible refine hK _ ?_
                exact ⟨c1, c2⟩
              · go_simp
                with_reducible refine hK _ ?_
                exact ⟨c1, c2⟩
              · go_simp
                with_reducible refine hK _ ?_
                exact ⟨c1, c2⟩
              · go_simp
                refine hK _ ?_
                exact ⟨c1, c2⟩
              · go_simp
                refine (right55 _ 8 (by decide) (by decide) _).mono ?_
                rintro e w8 ⟨rfl, nq, rfl⟩
                with_reducible refine hK _ ?_
                exact ⟨Lib.hid (c1.out.drewN nq), Lib.hid (c2.out.drewN nq)⟩
            · intro L z w9 hS hL
              have c1 := hS.1
              have c2 := hS.2
              have k1 := (c1.out d (by omega)).1
              have k3 := (c1.out d (by omega)).2
              clear hS H5 G5 hL
              simp only [actMix, pickV, List.tail_cons, List.headD_cons, Act.put, List.setIfInBounds_toArray, List.set_cons_zero, List.set_cons_succ, List.replicate_succ, List.replicate_zero, List.drop_succ_cons, List.drop_zero, List.take_succ_cons, List.take_zero]
              obtain ⟨r5, hr⟩ : ∃ r, r = ror (x32 (f5 d) (f5 a)) 8 := ⟨_, rfl⟩
              rw [← hr]
              have hu : upd f5 d (ror (x32 (f5 d) (f5 a)) 8) = upd f5 d r5 := by rw [hr]
              obtain ⟨f6, hf⟩ : ∃ q, q = upd f5 d (ror (x32 (f5 d) (f5 a)) 8) := ⟨_, rfl⟩
              have h1 : Words 16 (w9.setCell ⟨g, d, none⟩ (.int .u32 r5)) g f6 := by rw [hf, hu]; exact c1.out.put d _
              have H6 := Lib.hid h1
              have G6 := Lib.hid (c2.out.put d (.int .u32 r5))
              have E6 := Lib.hid hf
              clear hr hu hf h1
              go_wp2_with fail
              clear c1 c2 k1 k3
              generalize World.setCell w9 _ _ = W6 at *
              refine region_mixt 11 [some (.slice (some ⟨g, 0, none⟩) 16 cap), some (.int .i64 (c : Int)), some (.slice (some ⟨g, 0, none⟩) 16 cap), some (.int .i64 (c : Int)), some (.pointer (some ⟨g, c, none⟩)), some (.int .u32 (f6 c)), some (.slice (some ⟨g, 0, none⟩) 16 cap), some (.int .i64 (d : Int)), some (.pointer (some ⟨g, d, none⟩)), some (.int .u32 (f6 d)), some (.int .u32 (a32 (f6 c) (f6 d)))]
                [[false, false, false, false, false, false, false, false, false, false, false], [false, false, false, false, false, false, false, false, false, false, false], [false, false, false, false, false, false, false, false, false, false, false], [false, false, false, false, false, false, false, false, false, false, false], [false, false, true, true, false, false, false, false, false, false, false], [false, false, false, false, true, false, false, false, false, false, false], [false, false, false, false, false, false, false, false, false, false, false], [false, false, false, false, false, false, false, false, false, false, false], [false, false, false, false, false, false, true, true, false, false, false], [false, false, false, false, false, false, false, false, true, false, false], [false, false, false, false, false, true, false, false, false, true, false]]
                (fun _ _ w9 => Hid (Words 16 w9 g f6) ∧ Hid (Only g w1 w9))
                (by kernel_rfl) (by kernel_rfl) (by kernel_rfl) (by kernel_rfl) (by kernel_rfl) (by decide) ?_ ?_ ?_
              · intro _
                exact ⟨H6.out.drew, G6.out.drew⟩
              · simp only [List.take_succ_cons, List.take_zero]
                refine ⟨?_, ?_, ?_, ?_, ?_, ?_, ?_, ?_, ?_, ?_, ?_, trivial⟩
                all_goals
                  intro L z w9 hS hl hp K hK
                  have c1 := hS.1
                  have c2 := hS.2
                  have k1 := (c1.out c (by omega)).1
                  have k2 := (c1.out d (by omega)).1
                  clear H6 G6 hS hl hp
                  replace hK := hK.out
                  simp only [actMix, pickV, List.tail_cons, List.headD_cons, Act.put, List.setIfInBounds_toArray, List.set_cons_zero, List.set_cons_succ] at hK ⊢
                · go_simp
                  with_reducible refine hK _ ?_
                  exact ⟨c1, c2⟩
                · go_simp
                  with_reducible refine hK _ ?_
                  exact ⟨c1, c2⟩
                · go_simp
                  with_reducible refine hK _ ?_
                  exact ⟨c1, c2⟩
                · go_simp
                  with_reducible refine hK _ ?_
                  exact ⟨c1, c2⟩
                · go_simp
                  with_reducible refine hK _ ?_
                  exact ⟨c1, c2⟩
                · go_simp
                  with_reducible refine hK _ ?_
                  exact ⟨c1, c2⟩
                · go_simp
                  with_reducible refine hK _ ?_
                  exact ⟨c1, c2⟩
                · go_simp
                  with_reducible refine hK _ ?_
                  exact ⟨c1, c2⟩
                · go_simp
                  with_reducible refine hK _ ?_
                  exact ⟨c1, c2⟩
                · go_simp
                  with_reducible refine hK _ ?_
                  exact ⟨c1, c2⟩
                · go_simp
                  refine hK _ ?_
                  exact ⟨c1, c2⟩
              · intro L z w9 hS hL
                have c1 := hS.1
                have c2 := hS.2
                have k1 := (c1.out c (by omega)).1
                have k3 := (c1.out c (by omega)).2
                clear hS H6 G6 hL
                simp only [actMix, pickV, List.tail_cons, List.headD_cons, Act.put, List.setIfInBounds_toArray, List.set_cons_zero, List.set_cons_succ, List.replicate_succ, List.replicate_zero, List.drop_succ_cons, List.drop_zero, List.take_succ_cons, List.take_zero]
                obtain ⟨r6, hr⟩ : ∃ r, r = a32 (f6 c) (f6 d) := ⟨_, rfl⟩
                rw [← hr]
                have hu : upd f6 c (a32 (f6 c) (f6 d)) = upd f6 c r6 := by rw [hr]
                obtain ⟨f7, hf⟩ : ∃ q, q = upd f6 c (a32 (f6 c) (f6 d)) := ⟨_, rfl⟩
                have h1 : Words 16 (w9.setCell ⟨g, c, none⟩ (.int .u32 r6)) g f7 := by rw [hf, hu]; exact c1.out.put c _
                have H7 := Lib.hid h1
                have G7 := Lib.hid (c2.out.put c (.int .u32 r6))
                have E7 := Lib.hid hf
                clear hr hu hf h1
                go_wp2_with fail
                clear c1 c2 k1 k3
                generalize World.setCell w9 _ _ = W7 at *
                refine region_mixt 12 [some (.slice (some ⟨g, 0, none⟩) 16 cap), some (.int .i64 (b : Int)), some (.slice (some ⟨g, 0, none⟩) 16 cap), some (.int .i64 (b : Int)), some (.pointer (some ⟨g, b, none⟩)), some (.int .u32 (f7 b)), some (.slice (some ⟨g, 0, none⟩) 16 cap), some (.int .i64 (c : Int)), some (.pointer (some ⟨g, c, none⟩)), some (.int .u32 (f7 c)), some (.int .u32 (x32 (f7 b) (f7 c))), some (.int .u32 (ror (x32 (f7 b) (f7 c)) 7))]
                  [[false, false, false, false, false, false, false, false, false, false, false, false], [false, false, false, false, false, false, false, false, false, false, false, false], [false, false, false, false, false, false, false, false, false, false, false, false], [false, false, false, false, false, false, false, false, false, false, false, false], [false, false, true, true, false, false, false, false, false, false, false, false], [false, false, false, false, true, false, false, false, false, false, false, false], [false, false, false, false, false, false, false, false, false, false, false, false], [false, false, false, false, false, false, false, false, false, false, false, false], [false, false, false, false, false, false, true, true, false, false, false, false], [false, false, false, false, false, false, false, false, true, false, false, false], [false, false, false, false, false, true, false, false, false, true, false, false], [false, false, false, false, false, false, false, false, false, false, true, false]]
                  (fun _ _ w9 => Hid (Words 16 w9 g f7) ∧ Hid (Only g w1 w9))
                  (by kernel_rfl) (by kernel_rfl) (by kernel_rfl) (by kernel_rfl) (by kernel_rfl) (by decide) ?_ ?_ ?_
                · intro _
                  exact ⟨H7.out.drew, G7.out.drew⟩
                · simp only [List.take_succ_cons, List.take_zero]
                  refine ⟨?_, ?_, ?_, ?_, ?_, ?_, ?_, ?_, ?_, ?_, ?_, ?_, trivial⟩
                  all_goals
                    intro L z w9 hS hl hp K hK
                    have c1 := hS.1
                    have c2 := hS.2
                    have k1 := (c1.out b (by omega)).1
                    have k2 := (c1.out c (by omega)).1
                    clear H7 G7 hS hl hp
                    replace hK := hK.out
                    simp only [actMix, pickV, List.tail_cons, List.headD_cons, Act.put, List.setIfInBounds_toArray, List.set_cons_zero, List.set_cons_succ] at hK ⊢
                  · go_simp
                    with_reducible refine hK _ ?_
                    exact ⟨c1, c2⟩
                  · go_simp
                    with_reducible refine hK _ ?_
                    exact ⟨c1, c2⟩
                  · go_simp
                    with_reducible refine hK _ ?_
                    exact ⟨c1, c2⟩
                  · go_simp
                    with_reducible refine hK _ ?_
                    exact ⟨c1, c2⟩
                  · go_simp
                    with_reducible refine hK _ ?_
                    exact ⟨c1, c2⟩
                  · go_simp
                    with_reducible refine hK _ ?_
                    exact ⟨c1, c2⟩
                  · go_simp
                    with_reducible refine hK _ ?_
                    exact ⟨c1, c2⟩
                  · go_simp
                    with_reducible refine hK _ ?_
                    exact ⟨c1, c2⟩
                  · go_simp
                    with_reducible refine hK _ ?_
                    exact ⟨c1, c2⟩
                  · go_simp
                    with_reducible refine hK _ ?_
                    exact ⟨c1, c2⟩
                  · go_simp
                    refine hK _ ?_
                    exact ⟨c1, c2⟩
                  · go_simp
                    refine (right55 _ 7 (by decide) (by decide) _).mono ?_
                    rintro e w8 ⟨rfl, nq, rfl⟩
                    with_reducible refine hK _ ?_
                    exact ⟨Lib.hid (c1.out.drewN nq), Lib.hid (c2.out.drewN nq)⟩
                · intro L z w9 hS hL
                  have c1 := hS.1
                  have c2 := hS.2
                  have k1 := (c1.out b (by omega)).1
                  have k3 := (c1.out b (by omega)).2
                  clear hS H7 G7 hL
                  simp only [actMix, pickV, List.tail_cons, List.headD_cons, Act.put, List.setIfInBounds_toArray, List.set_cons_zero, List.set_cons_succ, List.replicate_succ, List.replicate_zero, List.drop_succ_cons, List.drop_zero, List.take_succ_cons, List.take_zero]
                  obtain ⟨r7, hr⟩ : ∃ r, r = ror (x32 (f7 b) (f7 c)) 7 := ⟨_, rfl⟩
                  rw [← hr]
                  have hu : upd f7 b (ror (x32 (f7 b) (f7 c)) 7) = upd f7 b r7 := by rw [hr]
                  obtain ⟨f8, hf⟩ : ∃ q, q = upd f7 b (ror (x32 (f7 b) (f7 c)) 7) := ⟨_, rfl⟩
                  have h1 : Words 16 (w9.setCell ⟨g, b, none⟩ (.int .u32 r7)) g f8 := by rw [hf, hu]; exact c1.out.put b _
                  have H8 := Lib.hid h1
                  have G8 := Lib.hid (c2.out.put b (.int .u32 r7))
                  have E8 := Lib.hid hf
                  clear hr hu hf h1
                  go_wp2_with fail
                  clear c1 c2 k1 k3
                  generalize World.setCell w9 _ _ = W8 at *
                  have hfin : mixF f a b c d x y = f8 := by
                    obtain rfl := E8.out
                    obtain rfl := E7.out
                    obtain rfl := E6.out
                    obtain rfl := E5.out
                    obtain rfl := E4.out
                    obtain rfl := E3.out
                    obtain rfl := E2.out
                    obtain rfl := E1.out
                    rfl
                  rw [hfin]
                  go_ret
                  exact ⟨_, rfl, ⟨g, cap, rfl, Nat.lt_of_lt_of_eq hg G8.out.size.symm, hcap, H8.out⟩, G8.out.below HB.out hBg⟩
end Go.Proofs.YtllmlngfmcbaaaaGreatDoor
