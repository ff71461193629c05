/- The reference's pool: Give and Add. -/
import Derived.Test.YtoikgphbicnhaabPlT
import Derived.Test.YtoikgphbicnhaabRegT
namespace Go.Proofs.Ytoikgphbicnhaab
open Go.RowKit Go.Maps Go.Shelf Go.Sort

def tripE (q : Bool) (E : Int) (v : Value) : Value := .tuple #[v, .bool q, .int .i64 E]
/-- While the region of put's call runs. -/
structure GvB (w0 : World) (base : Nat) (l' : List Bk) (L : Nat → Bool) (x : Nat → Value) (w : World) : Prop where
  bel : Below w0.heap.size w0 w
  val : L 2 = true → w.ownsRow base 61 5 (x 2) l'.length (cellsB l')
  cpy : L 11 = true → x 11 = x 2 ∧ L 2 = true
theorem own_belB {w w' : World} {base : Nat} {e : TypeId} {n m : Nat} {v : Value} {xs : List Value} (h : w.ownsRow base e n v m xs) (hb : Below w.heap.size w w') : w'.ownsRow base e n v m xs := by
  obtain ⟨hl, h0 | ⟨g, cap, cur, rfl, hbs, hc, r⟩⟩ := h
  · exact ⟨hl, .inl h0⟩
  · exact ⟨hl, .inr ⟨g, cap, cur, rfl, hbs, (hb.block g (Array.getElem?_eq_some_iff.1 hc).1).trans hc, r⟩⟩
theorem GvB.next {w0 w w' : World} {base : Nat} {l' : List Bk} {L : Nat → Bool} {x : Nat → Value} (h : GvB w0 base l' L x w) (i : Nat) (u : Value) (hi : i ≠ 2 ∧ i ≠ 11) (hb : Below w.heap.size w w') : GvB w0 base l' (setL L i) (updV x i u) w' := by
  refine ⟨h.bel.trans (hb.mono h.bel.size), fun e => ?_, fun e => ?_⟩
  · have e2 : setL L i 2 = L 2 := by simp [setL, Ne.symm hi.1]
    have e3 : updV x i u 2 = x 2 := by simp [updV, Ne.symm hi.1]
    rw [e2] at e
    rw [e3]
    exact own_belB (h.val e) hb
  · have e2 : setL L i 11 = L 11 := by simp [setL, Ne.symm hi.2]
    rw [e2] at e
    have e3 : updV x i u 2 = x 2 := by simp [updV, Ne.symm hi.1]
    have e4 : updV x i u 11 = x 11 := by simp [updV, Ne.symm hi.2]
    have e5 : setL L i 2 = L 2 := by simp [setL, Ne.symm hi.1]
    rw [e3, e4, e5]
    exact h.cpy e
set_option maxHeartbeats 4000000 in
set_option maxRecDepth 100000 in
theorem rgive27 (a : Option Addr) (c : Nat) (l : List Bk) (hg : Good l) (hl : l.length ≤ 1100) (s : ByteArray) (w : World) (h : IsBksN w a c l) :
    Calls Try.prog 27 #[.slice a l.length c, .string s] w (RetB w a (chL l s gv1) (tripE (chD l s) (chE l s gv1E))) := by
  have HI := Lib.hid h.bks
  have HNC := Lib.hid h
  have HF := Lib.hid (rfind39 a c l hl s w h.bks)
  cases hf : fndB l s with
  | none =>
    obtain ⟨e1, e2⟩ := ch_none hf gv1E gv1
    rw [e1, e2, show chD l s = false by unfold chD; rw [hf]]
    rw [hf] at HF
    simp only [Option.getD_none, Option.isSome_none, bkV, bkC, bk0] at HF
    clear h hf e1 e2
    go_enter Try.func27, Try.ntmps27
    go_wp2_with fail
    refine HF.out.mono ?_
    rintro e w2 ⟨rfl, hb⟩
    have HB := Lib.hid hb
    clear hb
    go_wp2_with fail
    refine bodyPost_ret (v := .tuple #[.slice a l.length c, .bool false, .int .i64 6]) (by simp [results, Try.results27, go_sem]) rfl ?_
    exact ⟨a, c, rfl, HNC.out.below (HB.out.alloc HB.out.size _), .inl rfl, HB.out.alloc HB.out.size _⟩
  | some b =>
    obtain ⟨e1, e2⟩ := ch_some hf gv1E gv1
    rw [e1, e2, show chD l s = gv1D b by unfold chD; rw [hf]]
    have hself := putB_self hg hf
    have hbd := hg.of hf
    rw [hf] at HF
    obtain ⟨n0, w0, c0, s0, z0⟩ := b
    simp only [Option.getD_some, Option.isSome_some, bkV, bkC] at HF
    simp only at hbd
    have hz0 := hbd.2.1.1
    have hz1 := hbd.2.1.2
    have hc1 := hbd.2.2.1.2
    have HSELF := Lib.hid hself
    clear h hf e1 e2 hself hg hbd
    by_cases h1 : z0 = 0
    · subst h1
      rw [show gv1E ⟨n0, w0, c0, s0, 0⟩ = 9 from rfl, show gv1 ⟨n0, w0, c0, s0, 0⟩ = ⟨n0, w0, c0, s0, 0⟩ from rfl, show gv1D ⟨n0, w0, c0, s0, 0⟩ = false from rfl, HSELF.out]
      go_enter Try.func27, Try.ntmps27
      go_wp2_with fail
      refine HF.out.mono ?_
      rintro e w2 ⟨rfl, hb⟩
      have HB := Lib.hid hb
      clear hb
      go_wp2_with fail
      refine bodyPost_ret (v := .tuple #[.slice a l.length c, .bool false, .int .i64 9]) (by simp [results, Try.results27, go_sem]) rfl ?_
      exact ⟨a, c, rfl, HNC.out.below (HB.out.alloc HB.out.size _), .inl rfl, HB.out.alloc HB.out.size _⟩
    · have e3 : gv1E ⟨n0, w0, c0, s0, z0⟩ = 0 := by simp [gv1E, h1]
      have e4 : gv1 ⟨n0, w0, c0, s0, z0⟩ = ⟨n0, w0, c0, s0, z0 - 1⟩ := by simp [gv1, h1]
      have e5 : gv1D ⟨n0, w0, c0, s0, z0⟩ = ((s0 != 0) && (z0 - 1 == 0)) := by
        simp only [gv1D, if_neg h1]
        by_cases q1 : s0 = 0 <;> by_cases q2 : z0 = 1
        · simp [q1]
        · simp [q1]
        · simp [q1, q2]
        · have : ¬ z0 - 1 = 0 := by omega
          simp [q1, q2, this]
      rw [e3, e4, e5]
      have t1 : (z0 == 0) = false := by simp [h1]
      obtain ⟨L2, hL2⟩ : ∃ L2, L2 = putB l ⟨n0, w0, c0, s0, z0 - 1⟩ := ⟨_, rfl⟩
      rw [← hL2]
      obtain ⟨z1, hz9⟩ : ∃ z1, z1 = z0 - 1 := ⟨_, rfl⟩
      rw [← hz9] at hL2
      have L2D := Lib.hid hL2.symm
      obtain ⟨ne, hne⟩ : ∃ ne, ne = (s0 != 0) := ⟨_, rfl⟩
      obtain ⟨zz, hzz⟩ : ∃ zz, zz = (z0 - 1 == 0) := ⟨_, rfl⟩
      rw [← hne, ← hzz]
      have HNE := Lib.hid hne.symm
      have HZZ : Hid ((z1 == 0) = zz) := by rw [hz9]; exact hzz.symm
      have HZ9 := Lib.hid hz9
      clear e3 e4 e5 h1 hL2 hne hzz hz9
      go_enter Try.func27, Try.ntmps27
      go_wp2_with fail
      refine HF.out.mono ?_
      rintro e w2 ⟨rfl, hb⟩
      have HB := Lib.hid hb
      clear hb
      obtain ⟨wz, hwz⟩ : ∃ wz, wz = w2.alloc (.cells #[.string n0, .int .i64 w0, .int .i64 c0, .int .i64 s0, .int .i64 z1] 61) := ⟨_, rfl⟩
      obtain ⟨bb, hbb⟩ : ∃ bb, bb = w2.heap.size := ⟨_, rfl⟩
      have HBZ : Hid (Below w.heap.size w wz) := by rw [hwz]; exact HB.out.alloc HB.out.size _
      have HRZ : Hid (Row wz bb 61 #[.string n0, .int .i64 w0, .int .i64 c0, .int .i64 s0, .int .i64 z1]) := by rw [hwz, hbb]; exact Row.new w2 _ _
      have HIZ := Lib.hid (HI.out.below HBZ.out)
      go_wp2_with fail
      rw [← HZ9.out, ← hwz, ← hbb]
      clear hwz hbb HZ9
      cases ne with
      | true =>
        simp only [Bool.true_and]
        refine region_mixt 12 [some (.slice a l.length c), some (.agg #[.string n0, .int .i64 w0, .int .i64 c0, .int .i64 s0, .int .i64 z1]), none, some (.pointer (some ⟨bb, 3, none⟩)), some (.int .i64 s0), some (.bool true), some (.bool true), some (.pointer (some ⟨bb, 4, none⟩)), some (.int .i64 z1), some (.bool zz), some (.bool zz), none]
          [[false, false, false, false, false, false, false, false, false, false, false, false], [false, false, false, false, false, false, false, false, false, false, false, false], [true, true, false, false, false, false, false, false, false, false, false, false], [false, false, false, false, false, false, false, false, false, false, false, false], [false, false, false, true, false, false, false, false, false, false, false, false], [false, false, false, false, true, false, false, false, false, false, false, false], [false, false, true, false, false, true, false, false, false, false, false, false], [false, false, false, false, false, false, true, false, false, false, false, false], [false, false, false, false, false, false, true, true, false, false, false, false], [false, false, false, false, false, false, true, false, true, false, false, false], [false, false, false, false, false, false, true, false, false, true, false, false], [true, true, true, false, false, false, true, false, false, false, false, false]]
          (fun LL x w9 => GvB wz wz.heap.size L2 LL x w9)
          (by kernel_rfl) (by kernel_rfl) (by kernel_rfl) (by kernel_rfl) (by kernel_rfl) (by decide) ?_ ?_ ?_
        · intro x
          exact ⟨(Below.refl _ _).drew, (fun e => by cases e), (fun e => by cases e)⟩
        · simp only [List.take_succ_cons, List.take_zero]
          refine ⟨?_, ?_, ?_, ?_, ?_, ?_, ?_, ?_, ?_, ?_, ?_, ?_, trivial⟩
          all_goals
            intro L x w9 hS hl9 hp K9 hK9
            have hs : GvB wz wz.heap.size L2 L x w9 := hS
            clear hS
            replace hK9 := hK9.out
            simp only [actMix, pickV, List.tail_cons, List.headD_cons, Act.put, List.setIfInBounds_toArray, List.set_cons_zero, List.set_cons_succ] at hK9 ⊢
          · clear hp
            go_simp
            with_reducible refine hK9 _ ?_
            exact hs.next 0 _ (by decide) (Below.refl _ _)
          · clear hp
            have hrr := HRZ.out.below hs.bel
            have d0 : w9.cell? ⟨bb, 0, none⟩ = some (.string n0) := hrr.cell 0
            have d1 : w9.cell? ⟨bb, 1, none⟩ = some (.int .i64 w0) := hrr.cell 1
            have d2 : w9.cell? ⟨bb, 2, none⟩ = some (.int .i64 c0) := hrr.cell 2
            have d3 : w9.cell? ⟨bb, 3, none⟩ = some (.int .i64 s0) := hrr.cell 3
            have d4 : w9.cell? ⟨bb, 4, none⟩ = some (.int .i64 z1) := hrr.cell 4
            clear hrr
            go_simp
            with_reducible refine hK9 _ ?_
            exact hs.next 1 _ (by decide) (Below.refl _ _)
          · clear hp
            go_simp
            refine (rput40 a c l hl ⟨n0, w0, c0, s0, z1⟩ w9 (HIZ.out.below hs.bel)).mono ?_
            rintro e w8 ⟨v, rfl, ho8, hb8⟩
            rw [L2D.out] at ho8
            go_simp
            with_reducible refine hK9 _ _ ?_
            refine ⟨hs.bel.trans (hb8.mono hs.bel.size), fun _ => ?_, fun e => ?_⟩
            · rw [show updV x 2 v 2 = v by simp [updV]]
              exact own_baseP ho8 hs.bel.size
            · have e2 : setL L 2 11 = L 11 := by simp [setL]
              rw [e2] at e
              have := (hs.cpy e).2
              have h9 : L 2 = false := hl9
              rw [h9] at this
              cases this
          · clear hp
            go_simp
            with_reducible refine hK9 _ ?_
            exact hs.next 3 _ (by decide) (Below.refl _ _)
          · clear hp
            have hrr := HRZ.out.below hs.bel
            have d9 : w9.cell? ⟨bb, 3, none⟩ = some (.int .i64 s0) := hrr.cell 3
            go_simp
            with_reducible refine hK9 _ ?_
            exact hs.next 4 _ (by decide) (Below.refl _ _)
          · clear hp
            have hne := HNE.out
            go_simp
            with_reducible refine hK9 _ ?_
            exact hs.next 5 _ (by decide) (Below.refl _ _)
          · clear hp
            go_simp
            with_reducible refine hK9 _ ?_
            exact hs.next 6 _ (by decide) (Below.refl _ _)
          · clear hp
            go_simp
            with_reducible refine hK9 _ ?_
            exact hs.next 7 _ (by decide) (Below.refl _ _)
          · clear hp
            have hrr := HRZ.out.below hs.bel
            have d9 : w9.cell? ⟨bb, 4, none⟩ = some (.int .i64 z1) := hrr.cell 4
            go_simp
            with_reducible refine hK9 _ ?_
            exact hs.next 8 _ (by decide) (Below.refl _ _)
          · clear hp
            have hzz := HZZ.out
            go_simp
            with_reducible refine hK9 _ ?_
            exact hs.next 9 _ (by decide) (Below.refl _ _)
          · clear hp
            go_simp
            with_reducible refine hK9 _ ?_
            exact hs.next 10 _ (by decide) (Below.refl _ _)
          · have h2 := allL_mem hp 2 (by decide +kernel)
            clear hp
            go_simp
            with_reducible refine hK9 _ _ ?_
            refine ⟨hs.bel, fun e => ?_, fun _ => ?_⟩
            · rw [show updV x 11 (x 2) 2 = x 2 by simp [updV]]
              exact hs.val h2
            · exact ⟨by simp [updV], by simp [setL, h2]⟩
        intro L x w9 hS hL
        have hs : GvB wz wz.heap.size L2 L x w9 := hS
        clear hS
        simp only [actMix, pickV, List.tail_cons, List.headD_cons, Act.put, List.setIfInBounds_toArray, List.set_cons_zero, List.set_cons_succ, List.replicate_succ, List.replicate_zero, List.drop_succ_cons, List.drop_zero, List.take_succ_cons, List.take_zero]
        have ho := hs.val (hL 2 (by decide))
        have hcp : x 11 = x 2 := (hs.cpy (hL 11 (by decide))).1
        have hbf := hs.bel
        first | rw [hcp] | skip
        clear hs hL hcp
        obtain ⟨V, hV⟩ : ∃ V, V = x 2 := ⟨_, rfl⟩
        rw [← hV] at ho ⊢
        have HO := Lib.hid ho
        have HBF := Lib.hid (HBZ.out.trans (hbf.mono HBZ.out.size))
        clear ho hbf hV
        go_wp2_with fail
        refine bodyPost_ret (v := .tuple #[V, .bool zz, .int .i64 0]) (by simp [results, Try.results27, go_sem]) rfl ?_
        exact RetB.of_own (a0 := a) (k := tripE zz 0) HO.out HBF.out HBZ.out.size
      | false =>
        simp only [Bool.false_and]
        refine region_mixt 12 [some (.slice a l.length c), some (.agg #[.string n0, .int .i64 w0, .int .i64 c0, .int .i64 s0, .int .i64 z1]), none, some (.pointer (some ⟨bb, 3, none⟩)), some (.int .i64 s0), some (.bool false), some (.bool false), some (undef), some (undef), some (undef), some (.bool false), none]
          [[false, false, false, false, false, false, false, false, false, false, false, false], [false, false, false, false, false, false, false, false, false, false, false, false], [true, true, false, false, false, false, false, false, false, false, false, false], [false, false, false, false, false, false, false, false, false, false, false, false], [false, false, false, true, false, false, false, false, false, false, false, false], [false, false, false, false, true, false, false, false, false, false, false, false], [false, false, true, false, false, true, false, false, false, false, false, false], [false, false, false, false, false, false, true, false, false, false, false, false], [false, false, false, false, false, false, true, true, false, false, false, false], [false, false, false, false, false, false, true, false, true, false, false, false], [false, false, false, false, false, false, true, false, false, true, false, false], [true, true, true, false, false, false, true, false, false, false, false, false]]
          (fun LL x w9 => GvB wz wz.heap.size L2 LL x w9)
          (by kernel_rfl) (by kernel_rfl) (by kernel_rfl) (by kernel_rfl) (by kernel_rfl) (by decide) ?_ ?_ ?_
        · intro x
          exact ⟨(Below.refl _ _).drew, (fun e => by cases e), (fun e => by cases e)⟩
        · simp only [List.take_succ_cons, List.take_zero]
          refine ⟨?_, ?_, ?_, ?_, ?_, ?_, ?_, ?_, ?_, ?_, ?_, ?_, trivial⟩
          all_goals
            intro L x w9 hS hl9 hp K9 hK9
            have hs : GvB wz wz.heap.size L2 L x w9 := hS
            clear hS
            replace hK9 := hK9.out
            simp only [actMix, pickV, List.tail_cons, List.headD_cons, Act.put, List.setIfInBounds_toArray, List.set_cons_zero, List.set_cons_succ] at hK9 ⊢
          · clear hp
            go_simp
            with_reducible refine hK9 _ ?_
            exact hs.next 0 _ (by decide) (Below.refl _ _)
          · clear hp
            have hrr := HRZ.out.below hs.bel
            have d0 : w9.cell? ⟨bb, 0, none⟩ = some (.string n0) := hrr.cell 0
            have d1 : w9.cell? ⟨bb, 1, none⟩ = some (.int .i64 w0) := hrr.cell 1
            have d2 : w9.cell? ⟨bb, 2, none⟩ = some (.int .i64 c0) := hrr.cell 2
            have d3 : w9.cell? ⟨bb, 3, none⟩ = some (.int .i64 s0) := hrr.cell 3
            have d4 : w9.cell? ⟨bb, 4, none⟩ = some (.int .i64 z1) := hrr.cell 4
            clear hrr
            go_simp
            with_reducible refine hK9 _ ?_
            exact hs.next 1 _ (by decide) (Below.refl _ _)
          · clear hp
            go_simp
            refine (rput40 a c l hl ⟨n0, w0, c0, s0, z1⟩ w9 (HIZ.out.below hs.bel)).mono ?_
            rintro e w8 ⟨v, rfl, ho8, hb8⟩
            rw [L2D.out] at ho8
            go_simp
            with_reducible refine hK9 _ _ ?_
            refine ⟨hs.bel.trans (hb8.mono hs.bel.size), fun _ => ?_, fun e => ?_⟩
            · rw [show updV x 2 v 2 = v by simp [updV]]
              exact own_baseP ho8 hs.bel.size
            · have e2 : setL L 2 11 = L 11 := by simp [setL]
              rw [e2] at e
              have := (hs.cpy e).2
              have h9 : L 2 = false := hl9
              rw [h9] at this
              cases this
          · clear hp
            go_simp
            with_reducible refine hK9 _ ?_
            exact hs.next 3 _ (by decide) (Below.refl _ _)
          · clear hp
            have hrr := HRZ.out.below hs.bel
            have d9 : w9.cell? ⟨bb, 3, none⟩ = some (.int .i64 s0) := hrr.cell 3
            go_simp
            with_reducible refine hK9 _ ?_
            exact hs.next 4 _ (by decide) (Below.refl _ _)
          · clear hp
            have hne := HNE.out
            go_simp
            with_reducible refine hK9 _ ?_
            exact hs.next 5 _ (by decide) (Below.refl _ _)
          · clear hp
            go_simp
            with_reducible refine hK9 _ ?_
            exact hs.next 6 _ (by decide) (Below.refl _ _)
          · clear hp
            go_simp
            with_reducible refine hK9 _ ?_
            exact hs.next 7 _ (by decide) (Below.refl _ _)
          · clear hp
            go_simp
            with_reducible refine hK9 _ ?_
            exact hs.next 8 _ (by decide) (Below.refl _ _)
          · clear hp
            go_simp
            with_reducible refine hK9 _ ?_
            exact hs.next 9 _ (by decide) (Below.refl _ _)
          · clear hp
            go_simp
            with_reducible refine hK9 _ ?_
            exact hs.next 10 _ (by decide) (Below.refl _ _)
          · have h2 := allL_mem hp 2 (by decide +kernel)
            clear hp
            go_simp
            with_reducible refine hK9 _ _ ?_
            refine ⟨hs.bel, fun e => ?_, fun _ => ?_⟩
            · rw [show updV x 11 (x 2) 2 = x 2 by simp [updV]]
              exact hs.val h2
            · exact ⟨by simp [updV], by simp [setL, h2]⟩
        intro L x w9 hS hL
        have hs : GvB wz wz.heap.size L2 L x w9 := hS
        clear hS
        simp only [actMix, pickV, List.tail_cons, List.headD_cons, Act.put, List.setIfInBounds_toArray, List.set_cons_zero, List.set_cons_succ, List.replicate_succ, List.replicate_zero, List.drop_succ_cons, List.drop_zero, List.take_succ_cons, List.take_zero]
        have ho := hs.val (hL 2 (by decide))
        have hcp : x 11 = x 2 := (hs.cpy (hL 11 (by decide))).1
        have hbf := hs.bel
        first | rw [hcp] | skip
        clear hs hL hcp
        obtain ⟨V, hV⟩ : ∃ V, V = x 2 := ⟨_, rfl⟩
        rw [← hV] at ho ⊢
        have HO := Lib.hid ho
        have HBF := Lib.hid (HBZ.out.trans (hbf.mono HBZ.out.size))
        clear ho hbf hV
        go_wp2_with fail
        refine bodyPost_ret (v := .tuple #[V, .bool false, .int .i64 0]) (by simp [results, Try.results27, go_sem]) rfl ?_
        exact RetB.of_own (a0 := a) (k := tripE false 0) HO.out HBF.out HBZ.out.size
end Go.Proofs.Ytoikgphbicnhaab
