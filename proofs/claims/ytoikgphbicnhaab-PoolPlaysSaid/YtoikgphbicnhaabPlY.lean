/- pool.Clone (written by genply.py). -/
import Derived.Test.YtoikgphbicnhaabPlI
import Derived.Test.YtoikgphbicnhaabMx
import Derived.Shelf.SlMaps.Clone
import Derived.Shelf.SlicesE.Clone
namespace Go.Proofs
open Go.Shelf
shelf_lay_g SlLaysW.n5 Slmc 5 at Try 28 as Try.cloneMp
shelf_lay_g SlLaysE0.n41 Slgn 41 at Try 29 as Try.cloneSt
end Go.Proofs
namespace Go.Proofs.Ytoikgphbicnhaab
open Go.RowKit Go.Maps Go.Shelf Go.Sort

theorem cloneS (g nc : Nat) (ns : List ByteArray) (hl : ns.length ≤ 100000) (w : World) (h : w.ownsRow 0 9 1 (.slice (some ⟨g, 0, none⟩) ns.length nc) ns.length (ns.map Value.string)) :
    Calls Try.prog 29 #[.slice (some ⟨g, 0, none⟩) ns.length nc] w fun e w' => ∃ g' c', e = .returned (.slice (some ⟨g', 0, none⟩) ns.length c') ∧ w'.ownsRow w.heap.size 9 1 (.slice (some ⟨g', 0, none⟩) ns.length c') ns.length (ns.map Value.string) ∧ Below w.heap.size w w' := by
  obtain ⟨i0, hi, hz0, hz1, hz2⟩ := info_partsP infoStrP
  refine (AnyE.slices_Clone Try.cloneSt i0 (.string ⟨#[]⟩) 1 16 hi hz0 hz1 hz2 rfl (by decide) (fun _ => by kernel_rfl) g 0 ns.length nc (ns.map Value.string) w (by simp) (by unfold maxLen; omega) (by omega) (fun j u hu => ?_) (fun u hu => ?_)).mono ?_
  · have hj : j < ns.length := by
      rcases Nat.lt_or_ge j ns.length with h | h
      · exact h
      · rw [List.getElem?_eq_none (by simpa using h)] at hu; cases hu
    rw [Nat.zero_add, h.cellAt j (by omega)]; exact hu
  · obtain ⟨x, _, rfl⟩ := List.mem_map.1 hu; rfl
  · rintro e w' ⟨v, rfl, ho, hne, hb⟩
    obtain ⟨hl2, ⟨rfl, _⟩ | ⟨g', c', cur, rfl, h1⟩⟩ := ho
    · exact absurd rfl hne
    · exact ⟨g', c', rfl, ⟨hl2, .inr ⟨g', c', cur, rfl, h1⟩⟩, hb⟩
theorem cloneM (bm n : Nat) (f : ByteArray → Option Bk) (w : World) (h : MapO MB w bm n f) :
    Calls Try.prog 28 #[.map (some bm)] w fun e w' => ∃ k, e = .returned (.map (some k)) ∧ w.heap.size ≤ k ∧ MapO MB w' k n f ∧ Below w.heap.size w w' := by
  obtain ⟨D, hown, hrd⟩ := h
  refine (AnyW.maps_Clone_owns Try.cloneMp 9 MB.R bm n D w hown).mono ?_
  rintro e w' ⟨rfl, h1, _, hb⟩
  exact ⟨_, rfl, Nat.le_refl _, ⟨D, h1, hrd⟩, hb⟩
/-- While the region of the two clones runs. -/
structure ClB (w0 : World) (n : Nat) (ns : List ByteArray) (f : ByteArray → Option Bk) (L : Nat → Bool) (x : Nat → Value) (w : World) : Prop where
  bel : Below w0.heap.size w0 w
  mp : L 4 = true → ∃ k, x 4 = .map (some k) ∧ w0.heap.size ≤ k ∧ MapO MB w k n f
  sl : L 9 = true → ∃ g c, x 9 = .slice (some ⟨g, 0, none⟩) ns.length c ∧ w0.heap.size ≤ g ∧ w.ownsRow 0 9 1 (.slice (some ⟨g, 0, none⟩) ns.length c) ns.length (ns.map Value.string)
  bd : L 10 = true → x 10 = .agg #[x 4, x 9] ∧ L 4 = true ∧ L 9 = true
  bx : L 11 = true → ∃ b, x 11 = .pointer (some ⟨b, 0, none⟩) ∧ w0.heap.size ≤ b ∧ Row w b 54 #[x 4, x 9] ∧ L 4 = true ∧ L 9 = true
theorem setL_n {L : Nat → Bool} {i j : Nat} (h : j ≠ i) : setL L i j = L j := by simp [setL, h]
theorem updV_n {x : Nat → Value} {i j : Nat} (h : j ≠ i) (u : Value) : updV x i u j = x j := by simp [updV, h]
theorem own_bz {w w' : World} {base : Nat} {e : TypeId} {n m : Nat} {v : Value} {xs : List Value} (h : w.ownsRow base e n v m xs) (hb : Below w.heap.size w w') : w'.ownsRow base e n v m xs := by
  obtain ⟨hl, h0 | ⟨g, cap, cur, rfl, hbs, hc, r⟩⟩ := h
  · exact ⟨hl, .inl h0⟩
  · exact ⟨hl, .inr ⟨g, cap, cur, rfl, hbs, (hb.block g (Array.getElem?_eq_some_iff.1 hc).1).trans hc, r⟩⟩
theorem ClB.below {w0 w w' : World} {n : Nat} {ns : List ByteArray} {f : ByteArray → Option Bk} {L : Nat → Bool} {x : Nat → Value} (h : ClB w0 n ns f L x w) (hb : Below w.heap.size w w') : ClB w0 n ns f L x w' :=
  ⟨h.bel.trans (hb.mono h.bel.size), fun e => by obtain ⟨k, h1, h2, h3⟩ := h.mp e; exact ⟨k, h1, h2, h3.below hb⟩, fun e => by obtain ⟨g, c, h1, h2, h3⟩ := h.sl e; exact ⟨g, c, h1, h2, own_bz h3 hb⟩, h.bd, fun e => by obtain ⟨b, h1, h2, h3, h4⟩ := h.bx e; exact ⟨b, h1, h2, h3.below hb, h4⟩⟩
theorem ClB.next {w0 w : World} {n : Nat} {ns : List ByteArray} {f : ByteArray → Option Bk} {L : Nat → Bool} {x : Nat → Value} (h : ClB w0 n ns f L x w) (i : Nat) (u : Value) (hi : i ≠ 4 ∧ i ≠ 9 ∧ i ≠ 10 ∧ i ≠ 11) : ClB w0 n ns f (setL L i) (updV x i u) w := by
  obtain ⟨h4, h9, h10, h11⟩ := hi
  refine ⟨h.bel, fun e => ?_, fun e => ?_, fun e => ?_, fun e => ?_⟩
  · rw [setL_n (Ne.symm h4)] at e; rw [updV_n (Ne.symm h4)]; exact h.mp e
  · rw [setL_n (Ne.symm h9)] at e; rw [updV_n (Ne.symm h9)]; exact h.sl e
  · rw [setL_n (Ne.symm h10)] at e; rw [updV_n (Ne.symm h10), updV_n (Ne.symm h4), updV_n (Ne.symm h9), setL_n (Ne.symm h4), setL_n (Ne.symm h9)]; exact h.bd e
  · rw [setL_n (Ne.symm h11)] at e; rw [updV_n (Ne.symm h11), updV_n (Ne.symm h4), updV_n (Ne.symm h9), setL_n (Ne.symm h4), setL_n (Ne.symm h9)]; exact h.bx e
set_option maxRecDepth 100000 in
set_option maxHeartbeats 4000000 in
theorem clone_some (pb bm g nc n : Nat) (ns : List ByteArray) (hl : ns.length ≤ 100000) (f : ByteArray → Option Bk) (w : World) (h : PMem w pb bm g nc n ns f) :
    Calls Try.prog 11 #[.pointer (some ⟨pb, 0, none⟩)] w fun e w' => ∃ pb' bm' g' nc', e = .returned (.pointer (some ⟨pb', 0, none⟩)) ∧ w.heap.size ≤ pb' ∧ w.heap.size ≤ bm' ∧ w.heap.size ≤ g' ∧ PMem w' pb' bm' g' nc' n ns f ∧ Below w.heap.size w w' := by
  have HM := Lib.hid h
  have HLN := Lib.hid hl
  clear h hl
  obtain ⟨wz, hwz⟩ : ∃ wz, wz = w := ⟨w, rfl⟩
  rw [← hwz]
  rw [← hwz] at HM
  clear hwz w
  go_enter Try.func11, Try.ntmps11
  go_wp2_with fail
  refine region_mixt 12 [some (.pointer (some ⟨pb, 0, none⟩)), some (.pointer (some ⟨pb, 0, none⟩)), some (.pointer (some ⟨pb, 0, none⟩)), some (.map (some bm)), none, some (.pointer (some ⟨pb, 0, none⟩)), some (.pointer (some ⟨pb, 0, none⟩)), some (.pointer (some ⟨pb, 1, none⟩)), some (.slice (some ⟨g, 0, none⟩) ns.length nc), none, none, none]
    [[false, false, false, false, false, false, false, false, false, false, false, false], [true, false, false, false, false, false, false, false, false, false, false, false], [false, true, false, false, false, false, false, false, false, false, false, false], [false, false, true, false, false, false, false, false, false, false, false, false], [false, false, false, true, false, false, false, false, false, false, false, false], [false, false, false, false, false, false, false, false, false, false, false, false], [false, false, false, false, false, true, false, false, false, false, false, false], [false, false, false, false, false, false, true, false, false, false, false, false], [false, false, false, false, false, false, false, true, false, false, false, false], [false, false, false, false, true, false, false, false, true, false, false, false], [false, false, false, false, true, false, false, false, false, true, false, false], [false, false, false, false, false, false, false, false, false, false, true, false]]
    (fun LL x w9 => ClB wz n ns f LL x w9)
    (by kernel_rfl) (by kernel_rfl) (by kernel_rfl) (by kernel_rfl) (by kernel_rfl) (by decide) ?_ ?_ ?_
  · intro x
    exact ⟨(Below.refl _ _).drew, (fun e => by cases e), (fun e => by cases e), (fun e => by cases e), (fun e => by cases e)⟩
  · simp only [List.take_succ_cons, List.take_zero]
    refine ⟨?_, ?_, ?_, ?_, ?_, ?_, ?_, ?_, ?_, ?_, ?_, ?_, trivial⟩
    all_goals
      intro L x w9 hS hl9 hp K9 hK9
      have hs : ClB wz n ns f L x w9 := hS
      clear hS
      replace hK9 := hK9.out
      simp only [actMix, pickV, List.tail_cons, List.headD_cons, Act.put, List.setIfInBounds_toArray, List.set_cons_zero, List.set_cons_succ] at hK9 ⊢
    · clear hp
      go_simp
      with_reducible refine hK9 _ ?_
      exact hs.next 0 _ (by decide)
    · clear hp
      go_simp
      with_reducible refine hK9 _ ?_
      exact hs.next 1 _ (by decide)
    · clear hp
      go_simp
      with_reducible refine hK9 _ ?_
      exact hs.next 2 _ (by decide)
    · clear hp
      have hrr := HM.out.row.below hs.bel
      have d9 : w9.cell? ⟨pb, 0, none⟩ = some (.map (some bm)) := hrr.cell 0
      go_simp
      with_reducible refine hK9 _ ?_
      exact hs.next 3 _ (by decide)
    · clear hp
      go_simp
      refine (cloneM bm n f w9 (HM.out.map.below hs.bel)).mono ?_
      rintro e w8 ⟨k, rfl, hk8, hm8, hb8⟩
      go_simp
      with_reducible refine hK9 _ _ ?_
      have hb := hs.below hb8
      have h4 : L 4 = false := hl9
      refine ⟨hb.bel, fun _ => ⟨k, by simp [updV], Nat.le_trans hs.bel.size hk8, hm8⟩, fun e => ?_, fun e => ?_, fun e => ?_⟩
      · rw [setL_n (by decide)] at e; rw [updV_n (by decide)]; exact hb.sl e
      · rw [setL_n (by decide)] at e; have := (hb.bd e).2.1; rw [h4] at this; cases this
      · rw [setL_n (by decide)] at e
        obtain ⟨_, _, _, _, h9, _⟩ := hb.bx e
        rw [h4] at h9; cases h9
    · clear hp
      go_simp
      with_reducible refine hK9 _ ?_
      exact hs.next 5 _ (by decide)
    · clear hp
      go_simp
      with_reducible refine hK9 _ ?_
      exact hs.next 6 _ (by decide)
    · clear hp
      go_simp
      with_reducible refine hK9 _ ?_
      exact hs.next 7 _ (by decide)
    · clear hp
      have hrr := HM.out.row.below hs.bel
      have d9 : w9.cell? ⟨pb, 1, none⟩ = some (.slice (some ⟨g, 0, none⟩) ns.length nc) := hrr.cell 1
      go_simp
      with_reducible refine hK9 _ ?_
      exact hs.next 8 _ (by decide)
    · clear hp
      go_simp
      refine (cloneS g nc ns HLN.out w9 (own_bz HM.out.own hs.bel)).mono ?_
      rintro e w8 ⟨g', c', rfl, ho8, hb8⟩
      go_simp
      with_reducible refine hK9 _ _ ?_
      have hb := hs.below hb8
      have h9 : L 9 = false := hl9
      refine ⟨hb.bel, fun e => ?_, fun _ => ⟨g', c', by simp [updV], Nat.le_trans hs.bel.size (ho8.lt g' rfl).1, ?_⟩, fun e => ?_, fun e => ?_⟩
      · rw [setL_n (by decide)] at e; rw [updV_n (by decide)]; exact hb.mp e
      · obtain ⟨q1, q2 | ⟨g2, cap, cur, q3, q4, q5⟩⟩ := ho8
        · exact ⟨q1, .inl q2⟩
        · exact ⟨q1, .inr ⟨g2, cap, cur, q3, Nat.zero_le _, q5⟩⟩
      · rw [setL_n (by decide)] at e; have := (hb.bd e).2.2; rw [h9] at this; cases this
      · rw [setL_n (by decide)] at e
        obtain ⟨_, _, _, _, _, h8⟩ := hb.bx e
        rw [h9] at h8; cases h8
    · have h4 := allL_mem hp 4 (by decide +kernel)
      have h9 := allL_mem hp 9 (by decide +kernel)
      have h10 : L 10 = false := hl9
      clear hp
      obtain ⟨k, hk, hk2, hmk⟩ := hs.mp h4
      obtain ⟨g', c', hg, hg2, hog⟩ := hs.sl h9
      simp only [hk, hg] at hK9 ⊢
      go_simp
      with_reducible refine hK9 _ _ ?_
      refine ⟨hs.bel, fun e => ?_, fun e => ?_, fun _ => ?_, fun e => ?_⟩
      · rw [updV_n (by decide)]; exact hs.mp h4
      · rw [updV_n (by decide)]; exact hs.sl h9
      · refine ⟨?_, by rw [setL_n (by decide)]; exact h4, by rw [setL_n (by decide)]; exact h9⟩
        simp [updV, hk, hg]
      · rw [setL_n (by decide)] at e
        rw [updV_n (by decide), updV_n (by decide), updV_n (by decide), setL_n (by decide), setL_n (by decide)]
        exact hs.bx e
    · have h10 := allL_mem hp 10 (by decide +kernel)
      clear hp
      obtain ⟨hbd, h4, h9⟩ := hs.bd h10
      obtain ⟨k, hk, hk2, hmk⟩ := hs.mp h4
      obtain ⟨g', c', hg, hg2, hog⟩ := hs.sl h9
      rw [hk, hg] at hbd
      simp only [hbd, hk, hg] at hK9 ⊢
      go_simp
      with_reducible refine hK9 _ _ ?_
      have hb := hs.below (below_alloc w9 (.cells #[.map (some k), .slice (some ⟨g', 0, none⟩) ns.length c'] 54))
      refine ⟨hb.bel, fun e => ?_, fun e => ?_, fun e => ?_, fun _ => ?_⟩
      · rw [updV_n (by decide)]; exact hb.mp h4
      · rw [updV_n (by decide)]; exact hb.sl h9
      · rw [setL_n (by decide)] at e
        rw [updV_n (by decide), updV_n (by decide), updV_n (by decide), setL_n (by decide), setL_n (by decide)]
        exact hb.bd e
      · refine ⟨w9.heap.size, by simp [updV], hs.bel.size, ?_, by rw [setL_n (by decide)]; exact h4, by rw [setL_n (by decide)]; exact h9⟩
        rw [updV_n (by decide), updV_n (by decide), hk, hg]
        exact Row.new w9 _ _
  intro L x w9 hS hL
  have hs : ClB wz n ns f L x w9 := hS
  clear hS
  simp only [actMix, pickV, List.tail_cons, List.headD_cons, Act.put, List.setIfInBounds_toArray, List.set_cons_zero, List.set_cons_succ, List.replicate_succ, List.replicate_zero, List.drop_succ_cons, List.drop_zero, List.take_succ_cons, List.take_zero]
  obtain ⟨k, hk, hk2, hmk⟩ := hs.mp (hL 4 (by decide))
  obtain ⟨g', c', hg, hg2, hog⟩ := hs.sl (hL 9 (by decide))
  obtain ⟨b, hb, hb2, hrow, _⟩ := hs.bx (hL 11 (by decide))
  rw [hk, hg] at hrow
  rw [hb]
  have HE : Hid (∃ pb' bm' g' nc', (b = pb') ∧ wz.heap.size ≤ pb' ∧ wz.heap.size ≤ bm' ∧ wz.heap.size ≤ g' ∧ PMem w9 pb' bm' g' nc' n ns f ∧ Below wz.heap.size wz w9) := ⟨b, k, g', c', rfl, hb2, hk2, hg2, ⟨hrow, hmk, hog⟩, hs.bel⟩
  clear hs hL hk hg hb hb2 hk2 hg2 hrow hmk hog
  go_wp2_with fail
  go_ret
  obtain ⟨pb', bm', g2, nc', rfl, h1, h2, h3, h4, h5⟩ := HE.out
  exact ⟨_, bm', g2, nc', rfl, h1, h2, h3, h4, h5⟩
theorem clone_nil (pb : Nat) (w : World) (h : PNil w pb) :
    Calls Try.prog 11 #[.pointer (some ⟨pb, 0, none⟩)] w fun e w' => ∃ pb', e = .returned (.pointer (some ⟨pb', 0, none⟩)) ∧ w.heap.size ≤ pb' ∧ PNil w' pb' ∧ Below w.heap.size w w' := by
  have HM : Hid (PNil w pb) := h
  have HC := Lib.hid (fun w => AnyW.maps_Clone_nil Try.cloneMp w)
  have HS := Lib.hid (fun w => AnyE.slices_Clone_nil Try.cloneSt 0 0 w)
  clear h
  obtain ⟨wz, hwz⟩ : ∃ wz, wz = w := ⟨w, rfl⟩
  rw [← hwz]
  rw [← hwz] at HM
  clear hwz w
  go_enter Try.func11, Try.ntmps11
  go_wp2_with fail
  refine region_mixt 12 [some (.pointer (some ⟨pb, 0, none⟩)), some (.pointer (some ⟨pb, 0, none⟩)), some (.pointer (some ⟨pb, 0, none⟩)), some (.map none), some (.map none), some (.pointer (some ⟨pb, 0, none⟩)), some (.pointer (some ⟨pb, 0, none⟩)), some (.pointer (some ⟨pb, 1, none⟩)), some (.slice none 0 0), some (.slice none 0 0), some (.agg #[.map none, .slice none 0 0]), none]
    [[false, false, false, false, false, false, false, false, false, false, false, false], [true, false, false, false, false, false, false, false, false, false, false, false], [false, true, false, false, false, false, false, false, false, false, false, false], [false, false, true, false, false, false, false, false, false, false, false, false], [false, false, false, true, false, false, false, false, false, false, false, false], [false, false, false, false, false, false, false, false, false, false, false, false], [false, false, false, false, false, true, false, false, false, false, false, false], [false, false, false, false, false, false, true, false, false, false, false, false], [false, false, false, false, false, false, false, true, false, false, false, false], [false, false, false, false, true, false, false, false, true, false, false, false], [false, false, false, false, true, false, false, false, false, true, false, false], [false, false, false, false, false, false, false, false, false, false, true, false]]
    (fun LL xx w9 => MxS wz [] [⟨11, 99, 54, #[.map none, .slice none 0 0], #[.map none, .slice none 0 0]⟩] LL xx w9)
    (by kernel_rfl) (by kernel_rfl) (by kernel_rfl) (by kernel_rfl) (by kernel_rfl) (by decide) ?_ ?_ ?_
  · intro x
    exact MxS.start (by simp)
  · simp only [List.take_succ_cons, List.take_zero]
    refine ⟨?_, ?_, ?_, ?_, ?_, ?_, ?_, ?_, ?_, ?_, ?_, ?_, trivial⟩
    all_goals
      intro L x w9 hS hl hp K9 hK9
      have hs : MxS wz [] [⟨11, 99, 54, #[.map none, .slice none 0 0], #[.map none, .slice none 0 0]⟩] L x w9 := hS
      clear hS
      replace hK9 := hK9.out
      simp only [actMix, pickV, List.tail_cons, List.headD_cons, Act.put, List.setIfInBounds_toArray, List.set_cons_zero, List.set_cons_succ] at hK9 ⊢
    · clear hp
      go_simp
      with_reducible refine hK9 _ ?_
      exact hs.next 0 _ (by simp [MxI])
    · clear hp
      go_simp
      with_reducible refine hK9 _ ?_
      exact hs.next 1 _ (by simp [MxI])
    · clear hp
      go_simp
      with_reducible refine hK9 _ ?_
      exact hs.next 2 _ (by simp [MxI])
    · clear hp
      have g0 : w9.cell? ⟨pb, 0, none⟩ = some (.map none) := (hs.row HM.out (by simp)).cell 0
      go_simp
      with_reducible refine hK9 _ ?_
      exact hs.next 3 _ (by simp [MxI])
    · clear hp
      go_simp
      refine (HC.out w9).mono ?_
      rintro e w8 ⟨rfl, hB8⟩
      subst w8
      go_simp
      with_reducible refine hK9 _ ?_
      exact hs.next 4 _ (by simp [MxI])
    · clear hp
      go_simp
      with_reducible refine hK9 _ ?_
      exact hs.next 5 _ (by simp [MxI])
    · clear hp
      go_simp
      with_reducible refine hK9 _ ?_
      exact hs.next 6 _ (by simp [MxI])
    · clear hp
      go_simp
      with_reducible refine hK9 _ ?_
      exact hs.next 7 _ (by simp [MxI])
    · clear hp
      have g0 : w9.cell? ⟨pb, 1, none⟩ = some (.slice none 0 0) := (hs.row HM.out (by simp)).cell 1
      go_simp
      with_reducible refine hK9 _ ?_
      exact hs.next 8 _ (by simp [MxI])
    · clear hp
      go_simp
      refine (HS.out w9).mono ?_
      rintro e w8 ⟨rfl, hB8⟩
      subst w8
      go_simp
      with_reducible refine hK9 _ ?_
      exact hs.next 9 _ (by simp [MxI])
    · clear hp
      go_simp
      with_reducible refine hK9 _ ?_
      exact hs.next 10 _ (by simp [MxI])
    · clear hp
      go_simp
      with_reducible refine hK9 _ _ ?_
      exact hs.alloc (n := ⟨11, 99, 54, #[.map none, .slice none 0 0], #[.map none, .slice none 0 0]⟩) (by simp) hl (by simp) (by simp) (by simp)
  intro L x w9 hS hL
  have hs : MxS wz [] [⟨11, 99, 54, #[.map none, .slice none 0 0], #[.map none, .slice none 0 0]⟩] L x w9 := hS
  clear hS
  simp only [actMix, pickV, List.tail_cons, List.headD_cons, Act.put, List.setIfInBounds_toArray, List.set_cons_zero, List.set_cons_succ, List.replicate_succ, List.replicate_zero, List.drop_succ_cons, List.drop_zero, List.take_succ_cons, List.take_zero]
  obtain ⟨b, hb, hbg, hbr⟩ := hs.new _ (List.mem_singleton.2 rfl) (hL 11 (by decide))
  simp only [ite_self] at hb hbr
  rw [hb]
  have HE : Hid (wz.heap.size ≤ b ∧ PNil w9 b ∧ Below wz.heap.size wz w9) := ⟨hbg, hbr, hs.bel0⟩
  clear hs hL hb hbg hbr
  go_wp2_with fail
  go_ret
  exact ⟨b, rfl, HE.out.1, HE.out.2.1, HE.out.2.2⟩
/-- Clone. -/
theorem cloneB (W : World) (B pb n : Nat) (l : List Bk) (O : Nat → Prop) (w : World) (h : PoolB W B pb n l O w) :
    Calls Try.prog 11 #[.pointer (some ⟨pb, 0, none⟩)] w fun e w' => ∃ pb', e = .returned (.pointer (some ⟨pb', 0, none⟩)) ∧ ∃ F, PoolM w' pb' n F l ∧ (∀ k, F k → w.heap.size ≤ k) ∧ Below w.heap.size w w' := by
  obtain ⟨F, ⟨hg, hlen, ⟨rfl, rfl, hnil⟩ | ⟨bm, g, nc, rfl, hmem⟩⟩, _, _, _⟩ := h
  · refine (clone_nil pb w hnil).mono ?_
    rintro e w' ⟨pb', rfl, h1, h2, h3⟩
    exact ⟨pb', rfl, _, ⟨hg, hlen, .inl ⟨rfl, rfl, h2⟩⟩, fun k hk => by rw [hk]; exact h1, h3⟩
  · refine (clone_some pb bm g nc n (nmsB l) (by unfold nmsB; simp; omega) (fndB l) w hmem).mono ?_
    rintro e w' ⟨pb', bm', g', nc', rfl, h1, h2, h3, h4, h5⟩
    refine ⟨pb', rfl, _, ⟨hg, hlen, .inr ⟨bm', g', nc', rfl, h4⟩⟩, ?_, h5⟩
    rintro k (rfl | rfl | rfl)
    · exact h1
    · exact h2
    · exact h3
end Go.Proofs.Ytoikgphbicnhaab
