/- Packed: PaC, PaD, PaF, PaE. -/
import Derived.StillTailTactics
import Derived.Deep.MidRow
import Derived.Test.YtbbphklhnngjmaaGreatDoorS11
/- request: a parser in memory; feedLine. -/
namespace Go.Proofs.YtbbphklhnngjmaaGreatDoor
open Go.RowKit

/-- How many bytes there are up to a byte 10, with it; or all. -/
def nlAt (l : List UInt8) : Nat := if Lib.indexByte l 10 = -1 then l.length else (Lib.indexByte l 10).toNat + 1
theorem ib_cases (l : List UInt8) (c : UInt8) : Lib.indexByte l c = -1 ∨ ∃ k : Nat, k < l.length ∧ Lib.indexByte l c = (k : Int) := by
  have h := Lib.indexByte_ge l c
  by_cases h0 : Lib.indexByte l c = -1
  · exact .inl h0
  · right
    have e : Lib.indexByte l c = ((Lib.indexByte l c).toNat : Int) := by omega
    have hs := (Lib.indexByte_some e).1
    exact ⟨_, (List.getElem?_eq_some_iff.1 hs).1, e⟩
theorem nlAt_le (l : List UInt8) : nlAt l ≤ l.length := by
  unfold nlAt
  rcases ib_cases l 10 with h | ⟨k, hk, h⟩
  · rw [if_pos h]; exact Nat.le_refl _
  · rw [if_neg (by omega), h]; omega
theorem ext_bs0 (l : List UInt8) (n : Nat) : (bs l).extract 0 n = bs (l.take n) := by
  rw [← bs_of ((bs l).extract 0 n), extractL, bs_list, List.drop_zero, Nat.sub_zero]
theorem ext_bs1 (l : List UInt8) (n : Nat) : (bs l).extract n (bs l).size = bs (l.drop n) := by
  rw [← bs_of ((bs l).extract n (bs l).size), extractL, bs_list, List.take_of_length_le (by rw [List.length_drop, bs_size]; exact Nat.le_refl _)]
set_option maxRecDepth 100000 in
set_option maxHeartbeats 4000000 in
theorem fline56 (G : Nat → Prop) (g : Nat) (M : HdL) (b : Int) (σ σ1 : HdS) (m0 t0 m1 t1 : List UInt8) (wt : Bool) (l : List UInt8) (hbd : σ.wt + 4 * l.length ≤ 1000000000) (h1 : hRun M σ (l.take (nlAt l)) = σ1) (q : Bool) (hq : σ1.begun = q) (E : Int) (hfz : σ1.firstOf.length ≤ 4000000000)
    (hE : (q = false ∧ E = σ1.errOf ∧ m1 = m0 ∧ t1 = t0) ∨ (q = true ∧ reqO (reqP σ1.firstOf) = .tuple #[fldV (m1, t1), .int .i64 E]))
    (w : World) (h : HeS G 108 (paR (bs m0) (bs t0) (.slice none 0 0) wt 0) w g M b σ) (hu : Up G w) (hM : ∀ w', Keep G w w' → MaxL w') :
    Calls Tryz.prog 91 #[.pointer (some ⟨g, 0, none⟩), .string (bs l)] w fun x w' => x = .returned (.tuple #[.string (bs (l.drop (nlAt l))), .int .i64 E]) ∧ HeS G 108 (paR (bs m1) (bs t1) (.slice none 0 0) wt 0) w' g M b σ1 ∧ Keep G w w' := by
  have hnl := nlAt_le l
  have hlz := bs_size l
  have HIB := Lib.hid (fun W => calls_flop (Tryz.strings_IndexByte (bs l) 10 W))
  have hic := ib_cases l 10
  have hnv : nlAt l = if Lib.indexByte l 10 = -1 then l.length else (Lib.indexByte l 10).toNat + 1 := rfl
  obtain ⟨n, hn⟩ : ∃ n, n = nlAt l := ⟨_, rfl⟩
  rw [← hn] at h1 hnl hnv ⊢
  have HF := Lib.hid (fun W hw hu hM => hfeed10 G 108 (paR (bs m0) (bs t0) (.slice none 0 0) wt 0) g M b σ (l.take n) (by rw [List.length_take]; omega) W hw hu hM)
  unfold HFeedTo at HF
  rw [h1] at HF
  obtain ⟨z, hz⟩ : ∃ z, z = bs (if σ1.errOf = 0 then hLeft M σ (l.take n) else []) := ⟨_, rfl⟩
  rw [← hz] at HF
  obtain ⟨E0, hE0⟩ : ∃ E0, E0 = σ1.errOf := ⟨_, rfl⟩
  rw [← hE0] at HF hE
  have HG := Lib.hid h.gG
  have HD := Lib.hid h
  have HM := Lib.hid hM
  obtain ⟨s, hs⟩ : ∃ s, s = bs l := ⟨_, rfl⟩
  have x0 : s.extract 0 n = bs (l.take n) := by rw [hs]; exact ext_bs0 l n
  have x1 : s.extract n s.size = bs (l.drop n) := by rw [hs]; exact ext_bs1 l n
  rw [← hs] at HIB hlz ⊢
  rw [show s.data.toList = l by rw [hs, bs_list], show (10 : Int).toNat.toUInt8 = 10 from rfl] at HIB
  obtain ⟨y0, hy0⟩ : ∃ y0, y0 = bs (l.take n) := ⟨_, rfl⟩
  obtain ⟨y1, hy1⟩ : ∃ y1, y1 = bs (l.drop n) := ⟨_, rfl⟩
  rw [← hy0] at x0 HF
  rw [← hy1] at x1 ⊢
  have hn1 : n ≤ s.size := by omega
  have hn2 : s.size ≤ 1000000000 := by omega
  have HBG := Lib.hid (fun W hw => hbegunS G 108 (paR (bs m0) (bs t0) (.slice none 0 0) wt 0) g M b σ1 W hw)
  have HFI := Lib.hid (fun W hw => hfirstS G 108 (paR (bs m0) (bs t0) (.slice none 0 0) wt 0) g M b σ1 W hw)
  rw [hq] at HBG
  have DN : ∀ k, Below w.heap.size w (w.drewN k) := fun k => ⟨rfl, rfl, rfl, Nat.le_refl _, fun _ _ => rfl⟩
  have HDR : Hid (HeS G 108 (paR (bs m0) (bs t0) (.slice none 0 0) wt 0) w.drew g M b σ) := h.below (DN 1)
  have KDR : Hid (Keep G w w.drew) := Keep.drew w
  have HU : Hid (Up G w.drew) := hu.keep KDR
  have HPR := Lib.hid (fun W hw => preq9 (bs σ1.firstOf) (by rw [bs_size]; exact hfz) W hw)
  rw [bs_list] at HPR
  clear h hu hM hn h1 hz hE0 hs hy0 hy1 hq DN hfz hbd
  have hcase : (Lib.indexByte l 10 = -1 ∧ n = s.size) ∨ ∃ k : Nat, Lib.indexByte l 10 = (k : Int) ∧ n = k + 1 := by
    rcases hic with h | ⟨k, hk, h⟩
    · rw [if_pos h] at hnv; exact .inl ⟨h, by omega⟩
    · rw [if_neg (by omega), h] at hnv; exact .inr ⟨k, h, by omega⟩
  clear hic hnv hnl hlz
  rcases hcase with ⟨hi, hnn⟩ | ⟨k, hi, hnn⟩
  · rw [hi] at HIB
    subst hnn
    have hy : y1 = ByteArray.empty := by rw [← x1]; simp
    subst hy
    rcases hE with ⟨rfl, rfl, rfl, rfl⟩ | ⟨rfl, hrq⟩
    · skip
      go_enter Tryz.func91, Tryz.ntmps91
      go_wp2_with fail
      refine (HIB.out w).mono ?_
      rintro e w' ⟨rfl, rfl⟩
      go_wp2_with fail
      refine region_mixt 11 [some (.pointer (some ⟨g, 0, none⟩)), some (.pointer (some ⟨g, 0, none⟩)), some (.pointer (some ⟨g, 0, none⟩)), some (.string s), some (.int .i64 (s.size : Int)), some (.string y0), some (.tuple #[.string z, .int .i64 E]), some (.tuple #[.string z, .int .i64 E]), some (.string z), some (.int .i64 E), some (.string z)]
        [[false, false, false, false, false, false, false, false, false, false, false], [true, false, false, false, false, false, false, false, false, false, false], [false, true, false, false, false, false, false, false, false, false, false], [false, false, false, false, false, false, false, false, false, false, false], [false, false, false, false, false, false, false, false, false, false, false], [false, false, false, true, true, false, false, false, false, false, false], [false, false, true, false, false, true, false, false, false, false, false], [false, false, false, false, false, false, true, false, false, false, false], [false, false, false, false, false, false, false, true, false, false, false], [false, false, false, false, false, false, false, true, false, false, false], [true, true, true, true, true, true, true, true, true, false, false]]
        (fun L x w1 => (L 6 = false ∧ w1 = w.drew) ∨ (L 6 = true ∧ HeS G 108 (paR (bs m1) (bs t1) (.slice none 0 0) wt 0) w1 g M b σ1 ∧ Keep G w w1))
        (by kernel_rfl) (by kernel_rfl) (by kernel_rfl) (by kernel_rfl) (by kernel_rfl) (by decide) ?_ ?_ ?_
      · intro _
        exact .inl ⟨rfl, rfl⟩
      · simp only [List.take_succ_cons, List.take_zero]
        refine ⟨?_, ?_, ?_, ?_, ?_, ?_, ?_, ?_, ?_, ?_, ?_, trivial⟩
        all_goals
          intro L x w9 hS hl hp K9 hK9
          have hs : (L 6 = false ∧ w9 = w.drew) ∨ (L 6 = true ∧ HeS G 108 (paR (bs m1) (bs t1) (.slice none 0 0) wt 0) w9 g M b σ1 ∧ Keep G w w9) := hS
          clear hS
          replace hK9 := hK9.out
          simp only [actMix, pickV, List.tail_cons, List.headD_cons, Act.put, List.setIfInBounds_toArray, List.set_cons_zero, List.set_cons_succ] at hK9 ⊢
        · go_simp
          with_reducible refine hK9 _ ?_
          have e6 : setL L 0 6 = L 6 := by simp [setL]
          rcases hs with ⟨h, h2⟩ | ⟨h, h2⟩
          · exact .inl ⟨e6.trans h, h2⟩
          · exact .inr ⟨e6.trans h, h2⟩
        · go_simp
          with_reducible refine hK9 _ ?_
          have e6 : setL L 1 6 = L 6 := by simp [setL]
          rcases hs with ⟨h, h2⟩ | ⟨h, h2⟩
          · exact .inl ⟨e6.trans h, h2⟩
          · exact .inr ⟨e6.trans h, h2⟩
        · go_simp
          with_reducible refine hK9 _ ?_
          have e6 : setL L 2 6 = L 6 := by simp [setL]
          rcases hs with ⟨h, h2⟩ | ⟨h, h2⟩
          · exact .inl ⟨e6.trans h, h2⟩
          · exact .inr ⟨e6.trans h, h2⟩
        · go_simp
          with_reducible refine hK9 _ ?_
          have e6 : setL L 3 6 = L 6 := by simp [setL]
          rcases hs with ⟨h, h2⟩ | ⟨h, h2⟩
          · exact .inl ⟨e6.trans h, h2⟩
          · exact .inr ⟨e6.trans h, h2⟩
        · go_simp
          with_reducible refine hK9 _ ?_
          have e6 : setL L 4 6 = L 6 := by simp [setL]
          rcases hs with ⟨h, h2⟩ | ⟨h, h2⟩
          · exact .inl ⟨e6.trans h, h2⟩
          · exact .inr ⟨e6.trans h, h2⟩
        · go_simp
          with_reducible refine hK9 _ ?_
          have e6 : setL L 5 6 = L 6 := by simp [setL]
          rcases hs with ⟨h, h2⟩ | ⟨h, h2⟩
          · exact .inl ⟨e6.trans h, h2⟩
          · exact .inr ⟨e6.trans h, h2⟩
        · go_simp
          obtain ⟨_, rfl⟩ : L 6 = false ∧ w9 = w.drew := by
            rcases hs with h | ⟨h, _⟩
            · exact h
            · rw [h] at hl; cases hl
          with_reducible refine (HF.out _ HDR.out HU.out (fun w' hk => HM.out w' (KDR.out.trans hk))).mono ?_
          rintro e9 w8 ⟨rfl, hd8, hk8⟩
          with_reducible refine hK9 _ ?_
          exact .inr ⟨by simp [setL], hd8, KDR.out.trans hk8⟩
        · go_simp
          with_reducible refine hK9 _ ?_
          have e6 : setL L 7 6 = L 6 := by simp [setL]
          rcases hs with ⟨h, h2⟩ | ⟨h, h2⟩
          · exact .inl ⟨e6.trans h, h2⟩
          · exact .inr ⟨e6.trans h, h2⟩
        · go_simp
          with_reducible refine hK9 _ ?_
          have e6 : setL L 8 6 = L 6 := by simp [setL]
          rcases hs with ⟨h, h2⟩ | ⟨h, h2⟩
          · exact .inl ⟨e6.trans h, h2⟩
          · exact .inr ⟨e6.trans h, h2⟩
        · go_simp
          with_reducible refine hK9 _ ?_
          have e6 : setL L 9 6 = L 6 := by simp [setL]
          rcases hs with ⟨h, h2⟩ | ⟨h, h2⟩
          · exact .inl ⟨e6.trans h, h2⟩
          · exact .inr ⟨e6.trans h, h2⟩
        · go_simp
          with_reducible refine hK9 _ ?_
          have e6 : setL L 10 6 = L 6 := by simp [setL]
          rcases hs with ⟨h, h2⟩ | ⟨h, h2⟩
          · exact .inl ⟨e6.trans h, h2⟩
          · exact .inr ⟨e6.trans h, h2⟩
      intro L x w1 hS hL
      obtain ⟨hd1, hk1⟩ : HeS G 108 (paR (bs m1) (bs t1) (.slice none 0 0) wt 0) w1 g M b σ1 ∧ Keep G w w1 := by
        have hs : (L 6 = false ∧ w1 = w.drew) ∨ (L 6 = true ∧ HeS G 108 (paR (bs m1) (bs t1) (.slice none 0 0) wt 0) w1 g M b σ1 ∧ Keep G w w1) := hS
        rcases hs with ⟨h, _⟩ | ⟨_, h⟩
        · rw [hL 6 (by decide)] at h; cases h
        · exact h
      clear hS hL
      simp only [actMix, pickV, List.tail_cons, List.headD_cons, Act.put, List.setIfInBounds_toArray, List.set_cons_zero, List.set_cons_succ, List.replicate_succ, List.replicate_zero, List.drop_succ_cons, List.drop_zero, List.take_succ_cons, List.take_zero]
      have D1 := Lib.hid hd1
      have K1 := Lib.hid hk1
      have M1 := Lib.hid (HM.out _ K1.out)
      clear hd1 hk1 HF HDR KDR HU HM
      go_wp2_with fail
      with_reducible refine (HBG.out w1 D1.out).mono ?_
      rintro e w' ⟨rfl, rfl⟩
      go_wp2_with fail
      go_ret2
      exact ⟨rfl, D1.out, K1.out⟩
    · skip
      go_enter Tryz.func91, Tryz.ntmps91
      go_wp2_with fail
      refine (HIB.out w).mono ?_
      rintro e w' ⟨rfl, rfl⟩
      go_wp2_with fail
      refine region_mixt 11 [some (.pointer (some ⟨g, 0, none⟩)), some (.pointer (some ⟨g, 0, none⟩)), some (.pointer (some ⟨g, 0, none⟩)), some (.string s), some (.int .i64 (s.size : Int)), some (.string y0), some (.tuple #[.string z, .int .i64 E0]), some (.tuple #[.string z, .int .i64 E0]), some (.string z), some (.int .i64 E0), some (.string z)]
        [[false, false, false, false, false, false, false, false, false, false, false], [true, false, false, false, false, false, false, false, false, false, false], [false, true, false, false, false, false, false, false, false, false, false], [false, false, false, false, false, false, false, false, false, false, false], [false, false, false, false, false, false, false, false, false, false, false], [false, false, false, true, true, false, false, false, false, false, false], [false, false, true, false, false, true, false, false, false, false, false], [false, false, false, false, false, false, true, false, false, false, false], [false, false, false, false, false, false, false, true, false, false, false], [false, false, false, false, false, false, false, true, false, false, false], [true, true, true, true, true, true, true, true, true, false, false]]
        (fun L x w1 => (L 6 = false ∧ w1 = w.drew) ∨ (L 6 = true ∧ HeS G 108 (paR (bs m0) (bs t0) (.slice none 0 0) wt 0) w1 g M b σ1 ∧ Keep G w w1))
        (by kernel_rfl) (by kernel_rfl) (by kernel_rfl) (by kernel_rfl) (by kernel_rfl) (by decide) ?_ ?_ ?_
      · intro _
        exact .inl ⟨rfl, rfl⟩
      · simp only [List.take_succ_cons, List.take_zero]
        refine ⟨?_, ?_, ?_, ?_, ?_, ?_, ?_, ?_, ?_, ?_, ?_, trivial⟩
        all_goals
          intro L x w9 hS hl hp K9 hK9
          have hs : (L 6 = false ∧ w9 = w.drew) ∨ (L 6 = true ∧ HeS G 108 (paR (bs m0) (bs t0) (.slice none 0 0) wt 0) w9 g M b σ1 ∧ Keep G w w9) := hS
          clear hS
          replace hK9 := hK9.out
          simp only [actMix, pickV, List.tail_cons, List.headD_cons, Act.put, List.setIfInBounds_toArray, List.set_cons_zero, List.set_cons_succ] at hK9 ⊢
        · go_simp
          with_reducible refine hK9 _ ?_
          have e6 : setL L 0 6 = L 6 := by simp [setL]
          rcases hs with ⟨h, h2⟩ | ⟨h, h2⟩
          · exact .inl ⟨e6.trans h, h2⟩
          · exact .inr ⟨e6.trans h, h2⟩
        · go_simp
          with_reducible refine hK9 _ ?_
          have e6 : setL L 1 6 = L 6 := by simp [setL]
          rcases hs with ⟨h, h2⟩ | ⟨h, h2⟩
          · exact .inl ⟨e6.trans h, h2⟩
          · exact .inr ⟨e6.trans h, h2⟩
        · go_simp
          with_reducible refine hK9 _ ?_
          have e6 : setL L 2 6 = L 6 := by simp [setL]
          rcases hs with ⟨h, h2⟩ | ⟨h, h2⟩
          · exact .inl ⟨e6.trans h, h2⟩
          · exact .inr ⟨e6.trans h, h2⟩
        · go_simp
          with_reducible refine hK9 _ ?_
          have e6 : setL L 3 6 = L 6 := by simp [setL]
          rcases hs with ⟨h, h2⟩ | ⟨h, h2⟩
          · exact .inl ⟨e6.trans h, h2⟩
          · exact .inr ⟨e6.trans h, h2⟩
        · go_simp
          with_reducible refine hK9 _ ?_
          have e6 : setL L 4 6 = L 6 := by simp [setL]
          rcases hs with ⟨h, h2⟩ | ⟨h, h2⟩
          · exact .inl ⟨e6.trans h, h2⟩
          · exact .inr ⟨e6.trans h, h2⟩
        · go_simp
          with_reducible refine hK9 _ ?_
          have e6 : setL L 5 6 = L 6 := by simp [setL]
          rcases hs with ⟨h, h2⟩ | ⟨h, h2⟩
          · exact .inl ⟨e6.trans h, h2⟩
          · exact .inr ⟨e6.trans h, h2⟩
        · go_simp
          obtain ⟨_, rfl⟩ : L 6 = false ∧ w9 = w.drew := by
            rcases hs with h | ⟨h, _⟩
            · exact h
            · rw [h] at hl; cases hl
          with_reducible refine (HF.out _ HDR.out HU.out (fun w' hk => HM.out w' (KDR.out.trans hk))).mono ?_
          rintro e9 w8 ⟨rfl, hd8, hk8⟩
          with_reducible refine hK9 _ ?_
          exact .inr ⟨by simp [setL], hd8, KDR.out.trans hk8⟩
        · go_simp
          with_reducible refine hK9 _ ?_
          have e6 : setL L 7 6 = L 6 := by simp [setL]
          rcases hs with ⟨h, h2⟩ | ⟨h, h2⟩
          · exact .inl ⟨e6.trans h, h2⟩
          · exact .inr ⟨e6.trans h, h2⟩
        · go_simp
          with_reducible refine hK9 _ ?_
          have e6 : setL L 8 6 = L 6 := by simp [setL]
          rcases hs with ⟨h, h2⟩ | ⟨h, h2⟩
          · exact .inl ⟨e6.trans h, h2⟩
          · exact .inr ⟨e6.trans h, h2⟩
        · go_simp
          with_reducible refine hK9 _ ?_
          have e6 : setL L 9 6 = L 6 := by simp [setL]
          rcases hs with ⟨h, h2⟩ | ⟨h, h2⟩
          · exact .inl ⟨e6.trans h, h2⟩
          · exact .inr ⟨e6.trans h, h2⟩
        · go_simp
          with_reducible refine hK9 _ ?_
          have e6 : setL L 10 6 = L 6 := by simp [setL]
          rcases hs with ⟨h, h2⟩ | ⟨h, h2⟩
          · exact .inl ⟨e6.trans h, h2⟩
          · exact .inr ⟨e6.trans h, h2⟩
      intro L x w1 hS hL
      obtain ⟨hd1, hk1⟩ : HeS G 108 (paR (bs m0) (bs t0) (.slice none 0 0) wt 0) w1 g M b σ1 ∧ Keep G w w1 := by
        have hs : (L 6 = false ∧ w1 = w.drew) ∨ (L 6 = true ∧ HeS G 108 (paR (bs m0) (bs t0) (.slice none 0 0) wt 0) w1 g M b σ1 ∧ Keep G w w1) := hS
        rcases hs with ⟨h, _⟩ | ⟨_, h⟩
        · rw [hL 6 (by decide)] at h; cases h
        · exact h
      clear hS hL
      simp only [actMix, pickV, List.tail_cons, List.headD_cons, Act.put, List.setIfInBounds_toArray, List.set_cons_zero, List.set_cons_succ, List.replicate_succ, List.replicate_zero, List.drop_succ_cons, List.drop_zero, List.take_succ_cons, List.take_zero]
      have D1 := Lib.hid hd1
      have K1 := Lib.hid hk1
      have M1 := Lib.hid (HM.out _ K1.out)
      clear hd1 hk1 HF HDR KDR HU HM
      go_wp2_with fail
      with_reducible refine (HBG.out w1 D1.out).mono ?_
      rintro e w' ⟨rfl, rfl⟩
      go_wp2_with fail
      with_reducible refine (HFI.out w1 D1.out).mono ?_
      rintro e w' ⟨rfl, rfl⟩
      go_wp2_with fail
      with_reducible refine (HPR.out w1 M1.out).mono ?_
      rintro e w2 ⟨rfl, hb2⟩
      have D2 := Lib.hid (D1.out.below hb2)
      have K2 := Lib.hid (K1.out.trans (.of_below hb2))
      have f11 := D2.out.free 11
      have f12 := D2.out.free 12
      have k11 := D2.out.cellR 0
      have k12 := D2.out.cellR 1
      simp only [paR, List.getElem?_cons_zero, List.getElem?_cons_succ, Nat.reduceAdd] at k11 k12
      have HR : Hid (HeS G 108 (paR (bs m1) (bs t1) (.slice none 0 0) wt 0) ((w2.setCell ⟨g, 11, none⟩ (.string (bs m1))).setCell ⟨g, 12, none⟩ (.string (bs t1))) g M b σ1) :=
        (D2.out.setR 0 (.string (bs m1))).setR 1 (.string (bs t1))
      have KK : ∀ (v : World) (i : Nat) (u : Value), Keep G v (v.setCell ⟨g, i, none⟩ u) := fun v i u => Keep.setCell v (p := ⟨g, i, none⟩) HG.out u
      have HK : Hid (Keep G w ((w2.setCell ⟨g, 11, none⟩ (.string (bs m1))).setCell ⟨g, 12, none⟩ (.string (bs t1)))) := (K2.out.trans (KK _ _ _)).trans (KK _ _ _)
      clear hb2 D1 K1 M1 D2 K2 KK HFI HPR
      rw [hrq]
      unfold fldV
      simp only
      go_wp2_with fail
      go_ret2
      exact ⟨rfl, HR.out, HK.out⟩
  · rw [hi] at HIB
    have hkn : (k : Int) + 1 = (n : Int) := by omega
    have hk2 : ((n : Int) == 0) = false := beq_eq_false_iff_ne.2 (by omega)
    have hk3 : (n : Int) ≤ s.size := by omega
    have hk4 : (n : Int) ≠ 0 := by omega
    have hk5 : k ≤ 1000000000 := by omega
    clear hnn
    rcases hE with ⟨rfl, rfl, rfl, rfl⟩ | ⟨rfl, hrq⟩
    · skip
      go_enter Tryz.func91, Tryz.ntmps91
      go_wp2_with fail
      refine (HIB.out w).mono ?_
      rintro e w' ⟨rfl, rfl⟩
      go_wp2_with fail
      refine region_mixt 11 [some (.pointer (some ⟨g, 0, none⟩)), some (.pointer (some ⟨g, 0, none⟩)), some (.pointer (some ⟨g, 0, none⟩)), some (.string s), some (.int .i64 (n : Int)), some (.string y0), some (.tuple #[.string z, .int .i64 E]), some (.tuple #[.string z, .int .i64 E]), some (.string z), some (.int .i64 E), some (.string z)]
        [[false, false, false, false, false, false, false, false, false, false, false], [true, false, false, false, false, false, false, false, false, false, false], [false, true, false, false, false, false, false, false, false, false, false], [false, false, false, false, false, false, false, false, false, false, false], [false, false, false, false, false, false, false, false, false, false, false], [false, false, false, true, true, false, false, false, false, false, false], [false, false, true, false, false, true, false, false, false, false, false], [false, false, false, false, false, false, true, false, false, false, false], [false, false, false, false, false, false, false, true, false, false, false], [false, false, false, false, false, false, false, true, false, false, false], [true, true, true, true, true, true, true, true, true, false, false]]
        (fun L x w1 => (L 6 = false ∧ w1 = w.drew) ∨ (L 6 = true ∧ HeS G 108 (paR (bs m1) (bs t1) (.slice none 0 0) wt 0) w1 g M b σ1 ∧ Keep G w w1))
        (by kernel_rfl) (by kernel_rfl) (by kernel_rfl) (by kernel_rfl) (by kernel_rfl) (by decide) ?_ ?_ ?_
      · intro _
        exact .inl ⟨rfl, rfl⟩
      · simp only [List.take_succ_cons, List.take_zero]
        refine ⟨?_, ?_, ?_, ?_, ?_, ?_, ?_, ?_, ?_, ?_, ?_, trivial⟩
        all_goals
          intro L x w9 hS hl hp K9 hK9
          have hs : (L 6 = false ∧ w9 = w.drew) ∨ (L 6 = true ∧ HeS G 108 (paR (bs m1) (bs t1) (.slice none 0 0) wt 0) w9 g M b σ1 ∧ Keep G w w9) := hS
          clear hS
          replace hK9 := hK9.out
          simp only [actMix, pickV, List.tail_cons, List.headD_cons, Act.put, List.setIfInBounds_toArray, List.set_cons_zero, List.set_cons_succ] at hK9 ⊢
        · go_simp
          with_reducible refine hK9 _ ?_
          have e6 : setL L 0 6 = L 6 := by simp [setL]
          rcases hs with ⟨h, h2⟩ | ⟨h, h2⟩
          · exact .inl ⟨e6.trans h, h2⟩
          · exact .inr ⟨e6.trans h, h2⟩
        · go_simp
          with_reducible refine hK9 _ ?_
          have e6 : setL L 1 6 = L 6 := by simp [setL]
          rcases hs with ⟨h, h2⟩ | ⟨h, h2⟩
          · exact .inl ⟨e6.trans h, h2⟩
          · exact .inr ⟨e6.trans h, h2⟩
        · go_simp
          with_reducible refine hK9 _ ?_
          have e6 : setL L 2 6 = L 6 := by simp [setL]
          rcases hs with ⟨h, h2⟩ | ⟨h, h2⟩
          · exact .inl ⟨e6.trans h, h2⟩
          · exact .inr ⟨e6.trans h, h2⟩
        · go_simp
          with_reducible refine hK9 _ ?_
          have e6 : setL L 3 6 = L 6 := by simp [setL]
          rcases hs with ⟨h, h2⟩ | ⟨h, h2⟩
          · exact .inl ⟨e6.trans h, h2⟩
          · exact .inr ⟨e6.trans h, h2⟩
        · go_simp
          with_reducible refine hK9 _ ?_
          have e6 : setL L 4 6 = L 6 := by simp [setL]
          rcases hs with ⟨h, h2⟩ | ⟨h, h2⟩
          · exact .inl ⟨e6.trans h, h2⟩
          · exact .inr ⟨e6.trans h, h2⟩
        · go_simp
          with_reducible refine hK9 _ ?_
          have e6 : setL L 5 6 = L 6 := by simp [setL]
          rcases hs with ⟨h, h2⟩ | ⟨h, h2⟩
          · exact .inl ⟨e6.trans h, h2⟩
          · exact .inr ⟨e6.trans h, h2⟩
        · go_simp
          obtain ⟨_, rfl⟩ : L 6 = false ∧ w9 = w.drew := by
            rcases hs with h | ⟨h, _⟩
            · exact h
            · rw [h] at hl; cases hl
          with_reducible refine (HF.out _ HDR.out HU.out (fun w' hk => HM.out w' (KDR.out.trans hk))).mono ?_
          rintro e9 w8 ⟨rfl, hd8, hk8⟩
          with_reducible refine hK9 _ ?_
          exact .inr ⟨by simp [setL], hd8, KDR.out.trans hk8⟩
        · go_simp
          with_reducible refine hK9 _ ?_
          have e6 : setL L 7 6 = L 6 := by simp [setL]
          rcases hs with ⟨h, h2⟩ | ⟨h, h2⟩
          · exact .inl ⟨e6.trans h, h2⟩
          · exact .inr ⟨e6.trans h, h2⟩
        · go_simp
          with_reducible refine hK9 _ ?_
          have e6 : setL L 8 6 = L 6 := by simp [setL]
          rcases hs with ⟨h, h2⟩ | ⟨h, h2⟩
          · exact .inl ⟨e6.trans h, h2⟩
          · exact .inr ⟨e6.trans h, h2⟩
        · go_simp
          with_reducible refine hK9 _ ?_
          have e6 : setL L 9 6 = L 6 := by simp [setL]
          rcases hs with ⟨h, h2⟩ | ⟨h, h2⟩
          · exact .inl ⟨e6.trans h, h2⟩
          · exact .inr ⟨e6.trans h, h2⟩
        · go_simp
          with_reducible refine hK9 _ ?_
          have e6 : setL L 10 6 = L 6 := by simp [setL]
          rcases hs with ⟨h, h2⟩ | ⟨h, h2⟩
          · exact .inl ⟨e6.trans h, h2⟩
          · exact .inr ⟨e6.trans h, h2⟩
      intro L x w1 hS hL
      obtain ⟨hd1, hk1⟩ : HeS G 108 (paR (bs m1) (bs t1) (.slice none 0 0) wt 0) w1 g M b σ1 ∧ Keep G w w1 := by
        have hs : (L 6 = false ∧ w1 = w.drew) ∨ (L 6 = true ∧ HeS G 108 (paR (bs m1) (bs t1) (.slice none 0 0) wt 0) w1 g M b σ1 ∧ Keep G w w1) := hS
        rcases hs with ⟨h, _⟩ | ⟨_, h⟩
        · rw [hL 6 (by decide)] at h; cases h
        · exact h
      clear hS hL
      simp only [actMix, pickV, List.tail_cons, List.headD_cons, Act.put, List.setIfInBounds_toArray, List.set_cons_zero, List.set_cons_succ, List.replicate_succ, List.replicate_zero, List.drop_succ_cons, List.drop_zero, List.take_succ_cons, List.take_zero]
      have D1 := Lib.hid hd1
      have K1 := Lib.hid hk1
      have M1 := Lib.hid (HM.out _ K1.out)
      clear hd1 hk1 HF HDR KDR HU HM
      go_wp2_with fail
      with_reducible refine (HBG.out w1 D1.out).mono ?_
      rintro e w' ⟨rfl, rfl⟩
      go_wp2_with fail
      go_ret2
      exact ⟨rfl, D1.out, K1.out⟩
    · skip
      go_enter Tryz.func91, Tryz.ntmps91
      go_wp2_with fail
      refine (HIB.out w).mono ?_
      rintro e w' ⟨rfl, rfl⟩
      go_wp2_with fail
      refine region_mixt 11 [some (.pointer (some ⟨g, 0, none⟩)), some (.pointer (some ⟨g, 0, none⟩)), some (.pointer (some ⟨g, 0, none⟩)), some (.string s), some (.int .i64 (n : Int)), some (.string y0), some (.tuple #[.string z, .int .i64 E0]), some (.tuple #[.string z, .int .i64 E0]), some (.string z), some (.int .i64 E0), some (.string z)]
        [[false, false, false, false, false, false, false, false, false, false, false], [true, false, false, false, false, false, false, false, false, false, false], [false, true, false, false, false, false, false, false, false, false, false], [false, false, false, false, false, false, false, false, false, false, false], [false, false, false, false, false, false, false, false, false, false, false], [false, false, false, true, true, false, false, false, false, false, false], [false, false, true, false, false, true, false, false, false, false, false], [false, false, false, false, false, false, true, false, false, false, false], [false, false, false, false, false, false, false, true, false, false, false], [false, false, false, false, false, false, false, true, false, false, false], [true, true, true, true, true, true, true, true, true, false, false]]
        (fun L x w1 => (L 6 = false ∧ w1 = w.drew) ∨ (L 6 = true ∧ HeS G 108 (paR (bs m0) (bs t0) (.slice none 0 0) wt 0) w1 g M b σ1 ∧ Keep G w w1))
        (by kernel_rfl) (by kernel_rfl) (by kernel_rfl) (by kernel_rfl) (by kernel_rfl) (by decide) ?_ ?_ ?_
      · intro _
        exact .inl ⟨rfl, rfl⟩
      · simp only [List.take_succ_cons, List.take_zero]
        refine ⟨?_, ?_, ?_, ?_, ?_, ?_, ?_, ?_, ?_, ?_, ?_, trivial⟩
        all_goals
          intro L x w9 hS hl hp K9 hK9
          have hs : (L 6 = false ∧ w9 = w.drew) ∨ (L 6 = true ∧ HeS G 108 (paR (bs m0) (bs t0) (.slice none 0 0) wt 0) w9 g M b σ1 ∧ Keep G w w9) := hS
          clear hS
          replace hK9 := hK9.out
          simp only [actMix, pickV, List.tail_cons, List.headD_cons, Act.put, List.setIfInBounds_toArray, List.set_cons_zero, List.set_cons_succ] at hK9 ⊢
        · go_simp
          with_reducible refine hK9 _ ?_
          have e6 : setL L 0 6 = L 6 := by simp [setL]
          rcases hs with ⟨h, h2⟩ | ⟨h, h2⟩
          · exact .inl ⟨e6.trans h, h2⟩
          · exact .inr ⟨e6.trans h, h2⟩
        · go_simp
          with_reducible refine hK9 _ ?_
          have e6 : setL L 1 6 = L 6 := by simp [setL]
          rcases hs with ⟨h, h2⟩ | ⟨h, h2⟩
          · exact .inl ⟨e6.trans h, h2⟩
          · exact .inr ⟨e6.trans h, h2⟩
        · go_simp
          with_reducible refine hK9 _ ?_
          have e6 : setL L 2 6 = L 6 := by simp [setL]
          rcases hs with ⟨h, h2⟩ | ⟨h, h2⟩
          · exact .inl ⟨e6.trans h, h2⟩
          · exact .inr ⟨e6.trans h, h2⟩
        · go_simp
          with_reducible refine hK9 _ ?_
          have e6 : setL L 3 6 = L 6 := by simp [setL]
          rcases hs with ⟨h, h2⟩ | ⟨h, h2⟩
          · exact .inl ⟨e6.trans h, h2⟩
          · exact .inr ⟨e6.trans h, h2⟩
        · go_simp
          with_reducible refine hK9 _ ?_
          have e6 : setL L 4 6 = L 6 := by simp [setL]
          rcases hs with ⟨h, h2⟩ | ⟨h, h2⟩
          · exact .inl ⟨e6.trans h, h2⟩
          · exact .inr ⟨e6.trans h, h2⟩
        · go_simp
          with_reducible refine hK9 _ ?_
          have e6 : setL L 5 6 = L 6 := by simp [setL]
          rcases hs with ⟨h, h2⟩ | ⟨h, h2⟩
          · exact .inl ⟨e6.trans h, h2⟩
          · exact .inr ⟨e6.trans h, h2⟩
        · go_simp
          obtain ⟨_, rfl⟩ : L 6 = false ∧ w9 = w.drew := by
            rcases hs with h | ⟨h, _⟩
            · exact h
            · rw [h] at hl; cases hl
          with_reducible refine (HF.out _ HDR.out HU.out (fun w' hk => HM.out w' (KDR.out.trans hk))).mono ?_
          rintro e9 w8 ⟨rfl, hd8, hk8⟩
          with_reducible refine hK9 _ ?_
          exact .inr ⟨by simp [setL], hd8, KDR.out.trans hk8⟩
        · go_simp
          with_reducible refine hK9 _ ?_
          have e6 : setL L 7 6 = L 6 := by simp [setL]
          rcases hs with ⟨h, h2⟩ | ⟨h, h2⟩
          · exact .inl ⟨e6.trans h, h2⟩
          · exact .inr ⟨e6.trans h, h2⟩
        · go_simp
          with_reducible refine hK9 _ ?_
          have e6 : setL L 8 6 = L 6 := by simp [setL]
          rcases hs with ⟨h, h2⟩ | ⟨h, h2⟩
          · exact .inl ⟨e6.trans h, h2⟩
          · exact .inr ⟨e6.trans h, h2⟩
        · go_simp
          with_reducible refine hK9 _ ?_
          have e6 : setL L 9 6 = L 6 := by simp [setL]
          rcases hs with ⟨h, h2⟩ | ⟨h, h2⟩
          · exact .inl ⟨e6.trans h, h2⟩
          · exact .inr ⟨e6.trans h, h2⟩
        · go_simp
          with_reducible refine hK9 _ ?_
          have e6 : setL L 10 6 = L 6 := by simp [setL]
          rcases hs with ⟨h, h2⟩ | ⟨h, h2⟩
          · exact .inl ⟨e6.trans h, h2⟩
          · exact .inr ⟨e6.trans h, h2⟩
      intro L x w1 hS hL
      obtain ⟨hd1, hk1⟩ : HeS G 108 (paR (bs m0) (bs t0) (.slice none 0 0) wt 0) w1 g M b σ1 ∧ Keep G w w1 := by
        have hs : (L 6 = false ∧ w1 = w.drew) ∨ (L 6 = true ∧ HeS G 108 (paR (bs m0) (bs t0) (.slice none 0 0) wt 0) w1 g M b σ1 ∧ Keep G w w1) := hS
        rcases hs with ⟨h, _⟩ | ⟨_, h⟩
        · rw [hL 6 (by decide)] at h; cases h
        · exact h
      clear hS hL
      simp only [actMix, pickV, List.tail_cons, List.headD_cons, Act.put, List.setIfInBounds_toArray, List.set_cons_zero, List.set_cons_succ, List.replicate_succ, List.replicate_zero, List.drop_succ_cons, List.drop_zero, List.take_succ_cons, List.take_zero]
      have D1 := Lib.hid hd1
      have K1 := Lib.hid hk1
      have M1 := Lib.hid (HM.out _ K1.out)
      clear hd1 hk1 HF HDR KDR HU HM
      go_wp2_with fail
      with_reducible refine (HBG.out w1 D1.out).mono ?_
      rintro e w' ⟨rfl, rfl⟩
      go_wp2_with fail
      with_reducible refine (HFI.out w1 D1.out).mono ?_
      rintro e w' ⟨rfl, rfl⟩
      go_wp2_with fail
      with_reducible refine (HPR.out w1 M1.out).mono ?_
      rintro e w2 ⟨rfl, hb2⟩
      have D2 := Lib.hid (D1.out.below hb2)
      have K2 := Lib.hid (K1.out.trans (.of_below hb2))
      have f11 := D2.out.free 11
      have f12 := D2.out.free 12
      have k11 := D2.out.cellR 0
      have k12 := D2.out.cellR 1
      simp only [paR, List.getElem?_cons_zero, List.getElem?_cons_succ, Nat.reduceAdd] at k11 k12
      have HR : Hid (HeS G 108 (paR (bs m1) (bs t1) (.slice none 0 0) wt 0) ((w2.setCell ⟨g, 11, none⟩ (.string (bs m1))).setCell ⟨g, 12, none⟩ (.string (bs t1))) g M b σ1) :=
        (D2.out.setR 0 (.string (bs m1))).setR 1 (.string (bs t1))
      have KK : ∀ (v : World) (i : Nat) (u : Value), Keep G v (v.setCell ⟨g, i, none⟩ u) := fun v i u => Keep.setCell v (p := ⟨g, i, none⟩) HG.out u
      have HK : Hid (Keep G w ((w2.setCell ⟨g, 11, none⟩ (.string (bs m1))).setCell ⟨g, 12, none⟩ (.string (bs t1)))) := (K2.out.trans (KK _ _ _)).trans (KK _ _ _)
      clear hb2 D1 K1 M1 D2 K2 KK HFI HPR
      rw [hrq]
      unfold fldV
      simp only
      go_wp2_with fail
      go_ret2
      exact ⟨rfl, HR.out, HK.out⟩
end Go.Proofs.YtbbphklhnngjmaaGreatDoor

/- request: a parser in memory; feedFields, step. -/
namespace Go.Proofs.YtbbphklhnngjmaaGreatDoor
open Go.RowKit

section
variable (G : Nat → Prop) (g : Nat) (M : HdL) (b : Int) (σ σ1 : HdS) (m t : ByteArray) (wt : Bool)
set_option maxRecDepth 100000 in
set_option maxHeartbeats 2000000 in
theorem fflds57 (l : List UInt8) (hbd : σ.wt + 4 * l.length ≤ 1000000000) (h1 : hRun M σ l = σ1) (hnf : σ1.fin = false) (w : World) (h : HeS G 108 (paR m t (.slice none 0 0) wt 0) w g M b σ) (hu : Up G w) (hM : ∀ w', Keep G w w' → MaxL w') :
    Calls Tryz.prog 93 #[.pointer (some ⟨g, 0, none⟩), .string (bs l)] w fun x w' => x = .returned (.tuple #[.string (bs (if σ1.errOf = 0 then hLeft M σ l else [])), .int .i64 σ1.errOf]) ∧ HeS G 108 (paR m t (.slice none 0 0) wt 0) w' g M b σ1 ∧ Keep G w w' := by
  have HF := Lib.hid (hfeed10 G 108 (paR m t (.slice none 0 0) wt 0) g M b σ l hbd w h hu hM)
  unfold HFeedTo at HF
  rw [h1] at HF
  obtain ⟨z, hz⟩ : ∃ z, z = bs (if σ1.errOf = 0 then hLeft M σ l else []) := ⟨_, rfl⟩
  obtain ⟨s, hs⟩ : ∃ s, s = bs l := ⟨_, rfl⟩
  rw [← hz, ← hs] at HF
  rw [← hz, ← hs]
  obtain ⟨E0, hE0⟩ : ∃ E0, E0 = σ1.errOf := ⟨_, rfl⟩
  rw [← hE0] at HF ⊢
  have HD := Lib.hid (fun W hw => hdoneS G 108 (paR m t (.slice none 0 0) wt 0) g M b σ1 W hw)
  rw [hnf] at HD
  clear h hu hM hbd h1 hnf hz hs hE0
  go_enter Tryz.func93, Tryz.ntmps93
  go_wp2_with fail
  with_reducible refine HF.out.mono ?_
  rintro e w1 ⟨rfl, hd1, hk1⟩
  have D1 := Lib.hid hd1
  have K1 := Lib.hid hk1
  clear hd1 hk1 HF
  go_wp2_with fail
  with_reducible refine (HD.out w1 D1.out).mono ?_
  rintro e w' ⟨rfl, rfl⟩
  go_wp2_with fail
  go_ret2
  exact ⟨rfl, D1.out, K1.out⟩
set_option maxRecDepth 100000 in
set_option maxHeartbeats 2000000 in
theorem fflds57d (l : List UInt8) (hbd : σ.wt + 4 * l.length ≤ 1000000000) (fl : List UInt8) (fs : List Fld) (h1 : hRun M σ l = .done fl fs) (h0 : ByteArray) (hfl : fs.length ≤ 1000000) (hok : ∀ f ∈ fs, FldOk f) (hh : allB hostN fs = [h0]) (hne : 0 < h0.size) (hte : allB encN fs = []) (hcl : allB lenN fs = [])
    (w : World) (h : HeS G 108 (paR m t (.slice none 0 0) wt 0) w g M b σ) (hu : Up G w) (hM : ∀ w', Keep G w w' → MaxL w') :
    Calls Tryz.prog 93 #[.pointer (some ⟨g, 0, none⟩), .string (bs l)] w fun x w' => ∃ a c, x = .returned (.tuple #[.string (bs (hLeft M σ l)), .int .i64 0]) ∧ HeS G 108 (paR m t (.slice a fs.length c) wt 0) w' g M b (.done fl fs) ∧ Keep G w w' := by
  have HF := Lib.hid (hfeed10 G 108 (paR m t (.slice none 0 0) wt 0) g M b σ l hbd w h hu hM)
  unfold HFeedTo at HF
  rw [h1, show (HdS.done fl fs).errOf = 0 from rfl, if_pos rfl] at HF
  obtain ⟨z, hz⟩ : ∃ z, z = bs (hLeft M σ l) := ⟨_, rfl⟩
  obtain ⟨s, hs⟩ : ∃ s, s = bs l := ⟨_, rfl⟩
  rw [← hz, ← hs] at HF
  rw [← hz, ← hs]
  have HD := Lib.hid (fun W hw => hdoneS G 108 (paR m t (.slice none 0 0) wt 0) g M b (.done fl fs) W hw)
  rw [show (HdS.done fl fs).fin = true from rfl] at HD
  have HFL := Lib.hid (fun W hw => hfields15 G 108 (paR m t (.slice none 0 0) wt 0) g M b (.done fl fs) (by show fs.length ≤ _; omega) W hw)
  rw [show (HdS.done fl fs).fldsOf = fs from rfl] at HFL
  have HBG := Lib.hid (fun W a c hw hf => begin67 G g M b (.done fl fs) m t wt a c fs h0 hfl hok hh hne hte hcl W hw hf)
  clear h hu hM hbd h1 hz hs hok hh hne hte hcl
  go_enter Tryz.func93, Tryz.ntmps93
  go_wp2_with fail
  with_reducible refine HF.out.mono ?_
  rintro e w1 ⟨rfl, hd1, hk1⟩
  have D1 := Lib.hid hd1
  have K1 := Lib.hid hk1
  clear hd1 hk1 HF
  go_wp2_with fail
  with_reducible refine (HD.out w1 D1.out).mono ?_
  rintro e w' ⟨rfl, rfl⟩
  go_wp2_with fail
  with_reducible refine (HFL.out w1 D1.out).mono ?_
  rintro e w2 ⟨a, c, rfl, hf2, hb2⟩
  have D2 := Lib.hid (D1.out.below hb2)
  have K2 := Lib.hid (K1.out.trans (.of_below hb2))
  have F2 := Lib.hid hf2
  clear hf2 hb2 D1 K1 HFL HD
  go_wp2_with fail
  with_reducible refine (HBG.out w2 a c D2.out F2.out).mono ?_
  rintro e w3 ⟨rfl, hd3, hk3⟩
  have D3 := Lib.hid hd3
  have K3 := Lib.hid (K2.out.trans hk3)
  clear hd3 hk3 D2 K2 F2 HBG
  go_wp2_with fail
  go_ret2
  exact ⟨a, c, rfl, D3.out, K3.out⟩
variable (rest : List Value)
set_option maxHeartbeats 1000000 in
theorem step37a (P : World → Prop) (s y : ByteArray) (E : Int) (hb : σ.begun = false) (w : World) (h : HeS G 108 rest w g M b σ)
    (hc : Calls Tryz.prog 91 #[.pointer (some ⟨g, 0, none⟩), .string s] w fun x w' => x = .returned (.tuple #[.string y, .int .i64 E]) ∧ P w') :
    Calls Tryz.prog 58 #[.pointer (some ⟨g, 0, none⟩), .string s] w fun x w' => x = .returned (.tuple #[.string y, .int .i64 E]) ∧ P w' := by
  have HB := Lib.hid (hbegunS G 108 rest g M b σ w h)
  rw [hb] at HB
  have HC := Lib.hid hc
  clear h hb hc
  go_enter Tryz.func58, Tryz.ntmps58
  go_wp2_with fail
  with_reducible refine HB.out.mono ?_
  rintro e w' ⟨rfl, rfl⟩
  go_wp2_with fail
  with_reducible refine HC.out.mono ?_
  rintro e w1 ⟨rfl, hp⟩
  have HP := Lib.hid hp
  clear hp HB HC
  go_wp2_with fail
  go_ret2
  exact ⟨rfl, HP.out⟩
set_option maxHeartbeats 1000000 in
theorem step37b (P : World → Prop) (s y : ByteArray) (E : Int) (hb : σ.begun = true) (hf : σ.fin = false) (w : World) (h : HeS G 108 rest w g M b σ)
    (hc : Calls Tryz.prog 93 #[.pointer (some ⟨g, 0, none⟩), .string s] w fun x w' => x = .returned (.tuple #[.string y, .int .i64 E]) ∧ P w') :
    Calls Tryz.prog 58 #[.pointer (some ⟨g, 0, none⟩), .string s] w fun x w' => x = .returned (.tuple #[.string y, .int .i64 E]) ∧ P w' := by
  have HB := Lib.hid (hbegunS G 108 rest g M b σ w h)
  rw [hb] at HB
  have HD := Lib.hid (hdoneS G 108 rest g M b σ w h)
  rw [hf] at HD
  have HC := Lib.hid hc
  clear h hb hc hf
  go_enter Tryz.func58, Tryz.ntmps58
  go_wp2_with fail
  with_reducible refine HB.out.mono ?_
  rintro e w' ⟨rfl, rfl⟩
  go_wp2_with fail
  with_reducible refine HD.out.mono ?_
  rintro e w' ⟨rfl, rfl⟩
  go_wp2_with fail
  with_reducible refine HC.out.mono ?_
  rintro e w1 ⟨rfl, hp⟩
  have HP := Lib.hid hp
  clear hp HB HC HD
  go_wp2_with fail
  go_ret2
  exact ⟨rfl, HP.out⟩
end
end Go.Proofs.YtbbphklhnngjmaaGreatDoor

/- request: a parser in memory; finish, and the store of an error. -/
namespace Go.Proofs.YtbbphklhnngjmaaGreatDoor
open Go.RowKit

theorem own_keepB {w w' : World} {G : Nat → Prop} {B : Nat} {e : TypeId} {n m : Nat} {v : Value} {xs : List Value} (h : w.ownsRow B e n v m xs) (hk : Keep G w w') (hg : ∀ k, v.ownBlock = some k → ¬ G k) : w'.ownsRow B e n v m xs := by
  obtain ⟨hl, h0 | ⟨g, cap, cur, rfl, hb, hc, r⟩⟩ := h
  · exact ⟨hl, .inl h0⟩
  · exact ⟨hl, .inr ⟨g, cap, cur, rfl, hb, (hk.block g (Array.getElem?_eq_some_iff.1 hc).1 (hg g rfl)).trans hc, r⟩⟩
theorem max00 (a : Int) : max (max 0 a) 0 = max 0 a := by omega
/-- The cells of a parser that has received nothing, or failed. -/
def paL (l h c b x : Int) : List Value := heL l h c b 0 ⟨#[]⟩ (.slice none 0 0) 0 (.slice none 0 0) false 0 (paR ⟨#[]⟩ ⟨#[]⟩ (.slice none 0 0) false x)
theorem paL_len (l h c b x : Int) : (paL l h c b x).length = 21 := rfl
theorem paNew_fix (l h c b : Int) : paNew (max 0 l) (max 0 h) (max 0 c) b = (paL (max 0 l) (max 0 h) (max 0 c) b 0).toArray := by
  unfold paNew
  rw [max00, max00, max00]
  rfl
theorem paL_one (l h c b x : Int) : (paL l h c b x).toArray.all (·.oneCell') = true := by
  unfold paL heL paR
  simp [Value.oneCell']
theorem infoPa : (Tryz.prog.info? 108).map (·.size) = some 21 := by kernel_rfl
theorem Row.over {w : World} {g : Nat} {T : TypeId} {cs cs' : Array Value} (h : Row w g T cs) : Row (w.setRow g cs') g T cs' := setRow_heap w g cs cs' T (0, 0) h
theorem keep_setRow {G : Nat → Prop} {g : Nat} (hg : G g) (w : World) (cs : Array Value) : Keep G w (w.setRow g cs) :=
  ⟨rfl, rfl, rfl, by simp, fun k _ hn => setRow_other w g k cs (fun e => hn (e ▸ hg))⟩
theorem HeS.row {G : Nat → Prop} {T : TypeId} {rest : List Value} {w : World} {g : Nat} {M : HdL} {b : Int} {σ : HdS} (h : HeS G T rest w g M b σ) : ∃ cs : List Value, Row w g T cs.toArray ∧ cs.length = 11 + rest.length := by
  obtain ⟨L, H, C, b', st, f, fs, sz, cur, cr, e, hr, rv, ln, hd⟩ := h
  exact ⟨_, hd.row, by simp [heL]; omega⟩
/-- A fresh parser, or an error, laid over a parser. -/
theorem HeS.over {G : Nat → Prop} {T : TypeId} {rest : List Value} {w : World} {g : Nat} {b0 : Int} {M0 : HdL} {σ : HdS} (h : HeS G T rest w g M0 b0 σ) (M : HdL) (b x : Int) :
    HeS G T (paR ⟨#[]⟩ ⟨#[]⟩ (.slice none 0 0) false x) (w.setRow g (paL (max 0 M.line) (max 0 M.head) (max 0 M.count) b x).toArray) g M b hd0
    ∧ Keep G w (w.setRow g (paL (max 0 M.line) (max 0 M.head) (max 0 M.count) b x).toArray) := by
  have hg := h.gG
  obtain ⟨L, H, C, b', st, f, fs, sz, cur, cr, e, hr, rv, ln, hd⟩ := h
  have r : Row (w.setRow g (paL (max 0 M.line) (max 0 M.head) (max 0 M.count) b x).toArray) g T (paL (max 0 M.line) (max 0 M.head) (max 0 M.count) b x).toArray := hd.row.over
  exact ⟨⟨_, _, _, _, _, _, _, _, _, _, _, .line0 [] false, .slice none 0 0, .slice none 0 0, r, hd.t1, hd.t2, hd.gG, nil_flds _, nil_byt _, (fun j h => by cases h), (fun j h => by cases h)⟩, keep_setRow hg _ _⟩
set_option maxRecDepth 100000 in
set_option maxHeartbeats 4000000 in
theorem finish39 (G : Nat → Prop) (g : Nat) (M : HdL) (b : Int) (σ : HdS) (m t : ByteArray) (fa : Option Addr) (fn fc : Nat) (wt : Bool) (hne : ∀ e, σ ≠ .err e) (w : World) (h : HeS G 108 (paR m t (.slice fa fn fc) wt 0) w g M b σ) (hu : Up G w) :
    Calls Tryz.prog 60 #[.pointer (some ⟨g, 0, none⟩)] w fun x w' => x = .returned (.agg #[.string m, .string t, .slice fa fn fc, .string ⟨#[]⟩, .int .i64 0]) ∧ HeS G 108 (paR ⟨#[]⟩ ⟨#[]⟩ (.slice none 0 0) false 0) w' g M b hd0 ∧ Keep G w w' := by
  have k11 := h.cellR 0
  have k12 := h.cellR 1
  have k13 := h.cellR 2
  have k14 := h.cellR 3
  have k15 := h.cellR 4
  have k17 := h.cellR 6
  have k18 := h.cellR 7
  simp only [paR, List.getElem?_cons_zero, List.getElem?_cons_succ, Nat.reduceAdd] at k11 k12 k13 k14 k15 k17 k18
  have hlt := h.lt
  have hcv := fun W : World => own_string W 0 _ _ (nil_byt W)
  have HD := Lib.hid h.less
  have HG := Lib.hid h.gG
  obtain ⟨L, H, C, b', st, f, fs, sz, cur, cr, e, hr, rv, ln, hd⟩ := h
  obtain ⟨rfl, rfl, rfl, rfl⟩ := he_lim hr hne
  obtain ⟨c0, c1, c2, c3, _⟩ := hd.c
  have HU := Lib.hid hu
  clear hd hu hr
  go_enter Tryz.func60, Tryz.ntmps60
  go_upto_region 5 with fail
  clear k11 k12 k13 k14 k15 k17 k18 c0 c1 c2 c3 hcv
  have R0 := (Row.new w 45 #[.string ⟨#[]⟩, .string ⟨#[]⟩, .slice none 0 0, .string ⟨#[]⟩, .int .i64 0]).alloc (.cells #[.string m, .string t, .slice fa fn fc, .string ⟨#[]⟩, .int .i64 0] 45)
  have R1 := Row.new (w.alloc (.cells #[.string ⟨#[]⟩, .string ⟨#[]⟩, .slice none 0 0, .string ⟨#[]⟩, .int .i64 0] 45)) 45 #[.string m, .string t, .slice fa fn fc, .string ⟨#[]⟩, .int .i64 0]
  rw [show (w.alloc (.cells #[.string ⟨#[]⟩, .string ⟨#[]⟩, .slice none 0 0, .string ⟨#[]⟩, .int .i64 0] 45)).heap.size = w.heap.size + 1 by simp] at R1
  have L1 := (below_alloc w (.cells #[.string ⟨#[]⟩, .string ⟨#[]⟩, .slice none 0 0, .string ⟨#[]⟩, .int .i64 0] 45)).alloc (by simp) (.cells #[.string m, .string t, .slice fa fn fc, .string ⟨#[]⟩, .int .i64 0] 45)
  generalize (w.alloc (.cells #[.string ⟨#[]⟩, .string ⟨#[]⟩, .slice none 0 0, .string ⟨#[]⟩, .int .i64 0] 45)).alloc (.cells #[.string m, .string t, .slice fa fn fc, .string ⟨#[]⟩, .int .i64 0] 45) = w1 at *
  have D1 := Lib.hid (HD.out.below L1)
  have B1 := Lib.hid L1
  obtain ⟨b0, hb0⟩ : ∃ b0, b0 = w.heap.size := ⟨_, rfl⟩
  obtain ⟨b1, hb1⟩ : ∃ b1, b1 = w.heap.size + 1 := ⟨_, rfl⟩
  rw [← hb0] at R0
  rw [← hb1] at R1
  have n0 : ¬ b0 = g := by omega
  have n1 : ¬ b1 = g := by omega
  have hu0 : G b0 := HU.out _ (by omega)
  have HB0 : Hid (w.heap.size ≤ b0) := Nat.le_of_eq hb0.symm
  rw [← hb1, ← hb0]
  have RR0 := Lib.hid R0
  have RR1 := Lib.hid R1
  have HU0 := Lib.hid hu0
  clear L1 HD hb0 hb1 hlt R0 R1 hu0
  obtain ⟨L9, H9, C9, B9, st9, f9, fs9, sz9, cur9, cr9, e9, hr9, rv9, ln9, hd9⟩ := D1.out
  obtain ⟨rfl, rfl, rfl, rfl⟩ := he_lim hr9 hne
  obtain ⟨c0, c1, c2, c3, _⟩ := hd9.c
  clear hd9 hr9
  have HN := Lib.hid (new21 (max 0 M.line) (max 0 M.head) (max 0 M.count) B9 w1)
  rw [paNew_fix] at HN
  go_wp2_with fail
  with_reducible refine HN.out.mono ?_
  rintro e w2 ⟨g2, rfl, hg2, hr2, hb2⟩
  have D2 := Lib.hid (D1.out.below hb2)
  have B2 := Lib.hid (B1.out.trans (hb2.mono B1.out.size))
  have RR0' := Lib.hid (RR0.out.below hb2)
  have RR1' := Lib.hid (RR1.out.below hb2)
  obtain ⟨pl, hpl⟩ : ∃ pl, pl = paL (max 0 M.line) (max 0 M.head) (max 0 M.count) B9 0 := ⟨_, rfl⟩
  have HPL := Lib.hid hpl
  rw [← hpl] at hr2
  have hpz : (Tryz.prog.info? 108).map (·.size) = some pl.length := by rw [hpl, paL_len]; exact infoPa
  have hpz2 : (Tryz.prog.info? 108).map (·.size) = some pl.toArray.size := by rw [List.size_toArray]; exact hpz
  have hp1 : pl.toArray.all (·.oneCell') = true := by rw [hpl]; exact paL_one ..
  have hrg : w2.rangeAt g2 0 pl := fun j v hv => by rw [Nat.zero_add, hr2.cell j, List.getElem?_toArray]; exact hv
  obtain ⟨old, hold, holz⟩ := D2.out.row
  have hplz : pl.length = 21 := by rw [hpl]; rfl
  have hoz : old.toArray.size = pl.toArray.size := by rw [List.size_toArray, List.size_toArray, holz, hplz]; rfl
  have HOLD := Lib.hid hold
  clear hpl hplz holz c0 c1 c2 c3 D1 B1 RR0 RR1 HN hr2 hb2 hg2 hold
  go_upto_region 6 with (first
    | (refine wpList_load_mid rfl 108 _ rfl g2 0 rfl pl _ hrg Tryz.underlying108 rfl hpz ?_)
    | (refine wpList_store_row rfl 108 _ _ rfl g pl.toArray rfl rfl 108 old.toArray HOLD.out hpz2 hoz hp1 ?_))
  have hov := D2.out.over M B9 0
  unfold HdL.line HdL.head HdL.count at HPL
  rw [← HPL.out] at hov
  have Q0 : Row (w2.setRow g pl.toArray) b0 45 #[.string ⟨#[]⟩, .string ⟨#[]⟩, .slice none 0 0, .string ⟨#[]⟩, .int .i64 0] := (setRow_other w2 g b0 _ n0).trans RR0'.out
  have Q1 : Row (w2.setRow g pl.toArray) b1 45 #[.string m, .string t, .slice fa fn fc, .string ⟨#[]⟩, .int .i64 0] := (setRow_other w2 g b1 _ n1).trans RR1'.out
  clear hpz hpz2 hp1 hrg hoz HOLD
  generalize w2.setRow g pl.toArray = w3 at *
  have DD3 := Lib.hid hov.1
  have KK3 := Lib.hid hov.2
  have z0 := Q0.free 0
  have z1 := Q0.free 1
  have z2 := Q0.free 2
  have z3 := Q0.free 3
  have z4 := Q0.free 4
  have p0 : w3.cell? ⟨b0, 0, none⟩ = some (.string ⟨#[]⟩) := Q0.cell 0
  have p1 : w3.cell? ⟨b0, 1, none⟩ = some (.string ⟨#[]⟩) := Q0.cell 1
  have p2 : w3.cell? ⟨b0, 2, none⟩ = some (.slice none 0 0) := Q0.cell 2
  have p3 : w3.cell? ⟨b0, 3, none⟩ = some (.string ⟨#[]⟩) := Q0.cell 3
  have p4 : w3.cell? ⟨b0, 4, none⟩ = some (.int .i64 0) := Q0.cell 4
  have q0 : w3.cell? ⟨b1, 0, none⟩ = some (.string m) := Q1.cell 0
  have q1 : w3.cell? ⟨b1, 1, none⟩ = some (.string t) := Q1.cell 1
  have q2 : w3.cell? ⟨b1, 2, none⟩ = some (.slice fa fn fc) := Q1.cell 2
  have q3 : w3.cell? ⟨b1, 3, none⟩ = some (.string ⟨#[]⟩) := Q1.cell 3
  have q4 : w3.cell? ⟨b1, 4, none⟩ = some (.int .i64 0) := Q1.cell 4
  clear hov Q0 Q1 RR0' RR1' HPL
  go_wp2_with fail
  refine bodyPost_ret (v := .agg #[.string m, .string t, .slice fa fn fc, .string ⟨#[]⟩, .int .i64 0]) (by simp [results, Tryz.results60, go_sem, p0, p1, p2, p3, p4]) rfl ⟨rfl, ?_⟩
  have KB : ∀ (v : World) (i : Nat) (u : Value), Keep (fun j => j = b0) v (v.setCell ⟨b0, i, none⟩ u) := fun v i u => Keep.setCell (G := fun j => j = b0) v (p := ⟨b0, i, none⟩) rfl u
  have KC := (((((KB w3 0 (.string m)).trans (KB _ 1 (.string t))).trans (KB _ 2 (.slice fa fn fc))).trans (KB _ 3 (.string ⟨#[]⟩))).trans (KB _ 4 (.int .i64 0)))
  refine ⟨(DD3.out.keep KC ?_).more (fun j _ hj => hj.1), ((Keep.of_below B2.out).trans (KK3.out.more (fun j _ hj => hj.1))).trans (KC.more (fun j _ hj => by rw [hj]; exact HU0.out))⟩
  rintro j ⟨_, hj⟩ rfl
  have := HB0.out
  omega
end Go.Proofs.YtbbphklhnngjmaaGreatDoor

/- request: a parser in memory; Feed, for requests without a body. -/
namespace Go.Proofs.YtbbphklhnngjmaaGreatDoor
open Go.RowKit

/-- Where a parser stands: its head, and the first line that came; or its error. -/
inductive PaP where
  | on (σ : HdS) (m t : List UInt8)
  | err (e : Int)
def PaP.errOf : PaP → Int
  | .on _ _ _ => 0
  | .err e => e
def PaS (G : Nat → Prop) (g : Nat) (M : HdL) (b : Int) (p : PaP) (w : World) : Prop := match p with
  | .on σ m t => ∃ wt, HeS G 108 (paR (bs m) (bs t) (.slice none 0 0) wt 0) w g M b σ
  | .err e => HeS G 108 (paR ⟨#[]⟩ ⟨#[]⟩ (.slice none 0 0) false e) w g ⟨0, 0, 0⟩ 0 hd0 ∧ e ≠ 0
/-- Fields with one Host, that isn't empty, and no sign of a body. -/
def NoBody (fs : List Fld) : Prop := ∃ h0, allB hostN fs = [h0] ∧ 0 < h0.size ∧ allB encN fs = [] ∧ allB lenN fs = [] ∧ fs.length ≤ 1000000 ∧ ∀ f ∈ fs, FldOk f
abbrev Rq := List UInt8 × List UInt8 × Nat
/-- The rounds of Feed: from a place and bytes to requests and a place. -/
inductive PRun (M : HdL) : PaP → List UInt8 → List Rq → PaP → Prop
  | nil (σ : HdS) (m t : List UInt8) : PRun M (.on σ m t) [] [] (.on σ m t)
  | errs (e : Int) (l : List UInt8) : PRun M (.err e) l [] (.err e)
  | more (σ σ1 : HdS) (m t l : List UInt8) (acc : List Rq) (p : PaP) (hne : l ≠ []) (hb : σ.begun = false) (hw : σ.wt + 4 * l.length ≤ 1000000000) (h1 : hRun M σ (l.take (nlAt l)) = σ1) (hb1 : σ1.begun = false) (he : σ1.errOf = 0) (hz : σ1.firstOf.length ≤ 4000000000)
      (hr : PRun M (.on σ1 m t) (l.drop (nlAt l)) acc p) : PRun M (.on σ m t) l acc p
  | bad (σ σ1 : HdS) (m t l : List UInt8) (e : Int) (hne : l ≠ []) (hb : σ.begun = false) (hw : σ.wt + 4 * l.length ≤ 1000000000) (h1 : hRun M σ (l.take (nlAt l)) = σ1) (hb1 : σ1.begun = false) (he : σ1.errOf = e) (he0 : e ≠ 0) (hz : σ1.firstOf.length ≤ 4000000000) : PRun M (.on σ m t) l [] (.err e)
  | bad2 (σ σ1 : HdS) (m t l : List UInt8) (hne : l ≠ []) (hb : σ.begun = false) (hw : σ.wt + 4 * l.length ≤ 1000000000) (h1 : hRun M σ (l.take (nlAt l)) = σ1) (hb1 : σ1.begun = true) (he : reqP σ1.firstOf = none) (hz : σ1.firstOf.length ≤ 4000000000) : PRun M (.on σ m t) l [] (.err 2)
  | good (σ σ1 : HdS) (m t l m1 t1 : List UInt8) (acc : List Rq) (p : PaP) (hne : l ≠ []) (hb : σ.begun = false) (hw : σ.wt + 4 * l.length ≤ 1000000000) (h1 : hRun M σ (l.take (nlAt l)) = σ1) (hb1 : σ1.begun = true) (hf : σ1.fin = false) (he : reqP σ1.firstOf = some (m1, t1)) (hz : σ1.firstOf.length ≤ 4000000000)
      (hr : PRun M (.on σ1 m1 t1) (l.drop (nlAt l)) acc p) : PRun M (.on σ m t) l acc p
  | fbad (σ : HdS) (m t l : List UInt8) (e : Int) (hne : l ≠ []) (hb : σ.begun = true) (hf : σ.fin = false) (hw : σ.wt + 4 * l.length ≤ 1000000000) (h1 : hRun M σ l = .err e) (he0 : e ≠ 0) : PRun M (.on σ m t) l [] (.err e)
  | fdone (σ : HdS) (m t l fl : List UInt8) (fs : List Fld) (acc : List Rq) (p : PaP) (hne : l ≠ []) (hb : σ.begun = true) (hf : σ.fin = false) (hw : σ.wt + 4 * l.length ≤ 1000000000) (h1 : hRun M σ l = .done fl fs) (hn : NoBody fs)
      (hr : PRun M (.on hd0 [] []) (hLeft M σ l) acc p) : PRun M (.on σ m t) l ((m, t, fs.length) :: acc) p
/-- The cells of requests. -/
def MsgCells : List Rq → List Value → Prop
  | [], cs => cs = []
  | x :: r, cs => ∃ fa fc cs', cs = .string (bs x.1) :: .string (bs x.2.1) :: .slice fa x.2.2 fc :: .string ⟨#[]⟩ :: .int .i64 0 :: cs' ∧ MsgCells r cs'
theorem msg_snoc : ∀ {acc : List Rq} {cs : List Value} (x : Rq) (fa : Option Addr) (fc : Nat), MsgCells acc cs → MsgCells (acc ++ [x]) (cs ++ [.string (bs x.1), .string (bs x.2.1), .slice fa x.2.2 fc, .string ⟨#[]⟩, .int .i64 0])
  | [], cs, x, fa, fc, h => by
    obtain rfl : cs = [] := h
    exact ⟨fa, fc, [], rfl, rfl⟩
  | y :: r, cs, x, fa, fc, h => by
    obtain ⟨ya, yc, cs', rfl, h'⟩ := h
    exact ⟨ya, yc, _, rfl, msg_snoc x fa fc h'⟩
theorem nlAt_pos {l : List UInt8} (h : l ≠ []) : 0 < nlAt l := by
  unfold nlAt
  split
  · exact List.length_pos_iff.2 h
  · omega
theorem hLeft_lt (M : HdL) (σ : HdS) (l : List UInt8) (hf : σ.fin = false) (hne : l ≠ []) : (hLeft M σ l).length < l.length := by
  cases l with
  | nil => exact absurd rfl hne
  | cons c r =>
    show (mLeft _ _ _ _).length < _
    rw [mLeft_cons _ _ _ _ _ hf]
    obtain ⟨a, ha⟩ := mLeft_suffix (M.step anyFirst) HdS.fin r (M.step anyFirst σ c)
    have := congrArg List.length ha
    rw [List.length_append] at this
    rw [List.length_cons]
    omega
theorem prun_len {M : HdL} {p q : PaP} {l : List UInt8} {acc : List Rq} (h : PRun M p l acc q) : acc.length ≤ l.length := by
  induction h with
  | nil | errs | bad | bad2 | fbad => exact Nat.zero_le _
  | more σ σ1 m t l acc p hne hb hw h1 hb1 he hz hr ih => rw [List.length_drop] at ih; omega
  | good σ σ1 m t l m1 t1 acc p hne hb hw h1 hb1 hf he hz hr ih => rw [List.length_drop] at ih; omega
  | fdone σ m t l fl fs acc p hne hb hf hw h1 hn hr ih => have := hLeft_lt M σ l hf hne; rw [List.length_cons]; omega
/-- What holds of a parser beside the requests that came. -/
structure FdInv (G G' : Nat → Prop) (g : Nat) (M : HdL) (b : Int) (p : PaP) (B : Nat) (v : Value) (n : Nat) (cs : List Value) (w : World) : Prop where
  sub : ∀ j, G' j → G j
  up : Up G' w
  pa : PaS G' g M b p w
  own : w.ownsRow B 45 5 v n cs
  no : ∀ k, v.ownBlock = some k → ¬ G' k
def FeedsTo (G : Nat → Prop) (g : Nat) (M : HdL) (b : Int) (p : PaP) (acc : List Rq) (w : World) (x : Ending) (w' : World) : Prop :=
  ∃ v cs G', x = .returned (.tuple #[v, .int .i64 p.errOf]) ∧ MsgCells acc cs ∧ FdInv G G' g M b p w.heap.size v acc.length cs w' ∧ Keep G w w'
theorem FdInv.next {G G' : Nat → Prop} {g : Nat} {M : HdL} {b : Int} {p p' : PaP} {B : Nat} {v : Value} {n : Nat} {cs : List Value} {w w' : World} (h : FdInv G G' g M b p B v n cs w) (hk : Keep G' w w') (hp : PaS G' g M b p' w') : FdInv G G' g M b p' B v n cs w' :=
  ⟨h.sub, h.up.keep hk, hp, own_keepB h.own hk h.no, h.no⟩
theorem infoMsg : (Tryz.prog.info? 45).map (fun i => (i.zero, i.size, i.bytes)) = some (some (.agg #[.string ⟨#[]⟩, .string ⟨#[]⟩, .slice none 0 0, .string ⟨#[]⟩, .int .i64 0]), 5, 80) := by kernel_rfl
theorem cells_new5 (w : World) (v1 v2 v3 v4 v5 : Value) (T : TypeId) : ∀ (k : Nat) u, [v1, v2, v3, v4, v5][k]? = some u → (w.alloc (.cells #[v1, v2, v3, v4, v5] T)).cell? ((⟨w.heap.size, 0, none⟩ : Addr).add k) = some u := by
  intro k u hu
  rw [Addr.add_mid]
  match k, hu with
  | 0, hu => obtain rfl := Option.some.inj hu; simp
  | 1, hu => obtain rfl := Option.some.inj hu; simp
  | 2, hu => obtain rfl := Option.some.inj hu; simp
  | 3, hu => obtain rfl := Option.some.inj hu; simp
  | 4, hu => obtain rfl := Option.some.inj hu; simp
  | k + 5, hu => simp at hu
/-- A request has been put behind the others. -/
theorem FdInv.put {G G' : Nat → Prop} {g : Nat} {M : HdL} {b : Int} {p : PaP} {B : Nat} {v v' : Value} {n : Nat} {cs cs' : List Value} {w w' : World} (o : Obj) (h : FdInv G G' g M b p B v n cs w) (hG : ∀ j, w.heap.size ≤ j → G j)
    (hg : (w.alloc o).grownBy w' v.ownBlock) (hat : v'.ownBlock = v.ownBlock ∨ v'.ownBlock = some (w.alloc o).heap.size) (ho : w'.ownsRow B 45 5 v' (n + 1) cs') :
    FdInv G (fun j => (G' j ∧ j < w.heap.size) ∨ w'.heap.size ≤ j) g M b p B v' (n + 1) cs' w' ∧ Keep (fun k => B ≤ k) w w' := by
  have k1 : Keep (fun k => v.ownBlock = some k) w w' := (Keep.of_below (below_alloc w o)).trans (Keep.grown hg (fun _ h => h))
  have hsz : (w.alloc o).heap.size = w.heap.size + 1 := by simp
  have hs1 := hg.size
  have less : ∀ {rest : List Value} {M0 : HdL} {b0 : Int} {σ : HdS}, HeS G' 108 rest w g M0 b0 σ → HeS (fun j => (G' j ∧ j < w.heap.size) ∨ w'.heap.size ≤ j) 108 rest w' g M0 b0 σ := by
    intro rest M0 b0 σ hh
    exact (hh.less.keep k1 (fun j hj he => h.no j he hj.1)).more (fun j _ hj => .inl hj)
  refine ⟨⟨?_, fun k hk => .inr hk, ?_, ho, ?_⟩, ?_⟩
  · rintro j (⟨hj, _⟩ | hj)
    · exact h.sub j hj
    · exact hG j (by omega)
  · have hp := h.pa
    cases p with
    | on σ m t =>
      obtain ⟨wt, hh⟩ := hp
      exact ⟨wt, less hh⟩
    | err e => exact ⟨less hp.1, hp.2⟩
  · intro k hk hj
    have hl := (ho.lt k hk).2
    rcases hj with ⟨h1, h2⟩ | h1
    · rcases hat with e | e
      · exact h.no k (by rw [← e]; exact hk) h1
      · rw [e] at hk
        injection hk with hk
        omega
    · omega
  · exact k1.more (fun k _ hk => (h.own.lt k hk).1)
set_option maxRecDepth 100000 in
set_option maxHeartbeats 8000000 in
theorem pfeed22 (G : Nat → Prop) (g : Nat) (M : HdL) (b : Int) (p pF : PaP) (l : List UInt8) (hll : l.length ≤ 100000000) (acc : List Rq) (hR : PRun M p l acc pF) (w : World) (hp : PaS G g M b p w) (hu : Up G w) (hM : ∀ w', Keep G w w' → MaxL w') :
    Calls Tryz.prog 22 #[.pointer (some ⟨g, 0, none⟩), .string (bs l)] w (FeedsTo G g M b pF acc w) := by
  obtain ⟨i0, hi, hz0, hz1, hz2⟩ := info_parts infoMsg
  have hacc := prun_len hR
  have H0 : Hid (∃ G' cs, FdInv G G' g M b p w.heap.size (.slice none 0 0) ([] : List Rq).length cs w ∧ MsgCells [] cs) := ⟨G, [], ⟨fun _ h => h, hu, hp, World.ownsRow_nil w _ _ _, fun k hk => by cases hk⟩, rfl⟩
  have HR := Lib.hid hR
  have HU := Lib.hid hu
  have HY := Lib.hid hM
  have HK0 := Lib.hid (Keep.refl G w)
  obtain ⟨S, hS⟩ : ∃ S, S = bs l := ⟨_, rfl⟩
  rw [← hS]
  have HS := Lib.hid hS
  clear hp hu hM hR hS
  go_enter Tryz.func22, Tryz.ntmps22
  go_wp2_with fail
  go_loopw [1, 6] (fun sv rv wr => ∃ (s : ByteArray) (p' : PaP) (acc1 acc2 : List Rq) (rq : Value), sv = .string s ∧ rq = rv ∧ Hid (PRun M p' s.data.toList acc2 pF) ∧ Hid (acc = acc1 ++ acc2) ∧ Hid (∃ G' cs, FdInv G G' g M b p' w.heap.size rv acc1.length cs wr ∧ MsgCells acc1 cs) ∧ Hid (Keep G w wr)) (fun sv _ _ => (strOfH sv).size)
  case atStart => exact ⟨S, p, [], acc, _, rfl, rfl, by rw [HS.out]; exact HR, rfl, H0, HK0⟩
  case round =>
    clear H0 HK0 HR HS
    obtain ⟨s, p', acc1, acc2, rq, rfl, rfl, HR, HA, HI, HK⟩ := hrel
    obtain ⟨G', cs, hinv, hmc⟩ := HI.out
    have HIN := Lib.hid hinv
    have HMC := Lib.hid hmc
    have hpa := hinv.pa
    have hrun := HR.out
    obtain ⟨l', hl'⟩ : ∃ l', l' = s.data.toList := ⟨_, rfl⟩
    have hsl : s = bs l' := by rw [hl', bs_of]
    have hszl : s.size = l'.length := by rw [hl', Lib.size_eq]
    rw [← hl'] at hrun
    have HSL := Lib.hid hsl
    have HAL : Hid (acc1.length ≤ 100000000) := by
      have := HA.out
      show _ ≤ _
      have h2 := congrArg List.length this
      rw [List.length_append] at h2
      omega
    have DN : ∀ (W : World) k, Below W.heap.size W (W.drewN k) := fun W k => ⟨rfl, rfl, rfl, Nat.le_refl _, fun _ _ => rfl⟩
    have HDN := Lib.hid DN
    clear hinv hmc HI hl' DN
    cases hrun with
    | nil σ m t =>
      obtain rfl : s = ⟨#[]⟩ := hsl
      obtain ⟨wt, hh⟩ := hpa
      have k20 := hh.cellR 9
      simp only [paR, List.getElem?_cons_zero, List.getElem?_cons_succ, Nat.reduceAdd] at k20
      have FX : Hid (∀ k, FeedsTo G g M b (.on σ m t) acc w (.returned (.tuple #[rq, .int .i64 0])) (wr.drewN k)) := fun k => ⟨_, cs, G', rfl, by rw [HA.out, List.append_nil]; exact HMC.out, by rw [HA.out, List.append_nil]; exact HIN.out.next (.of_below (HDN.out _ _)) ⟨wt, hh.below (HDN.out _ _)⟩, HK.out.trans (.of_below (HDN.out _ _))⟩
      clear hh HSL hszl
      go_wp2_with fail
      go_quiet (fail)
      go_wp2_with fail
      go_ret2
      exact FX.out _
    | errs e l' =>
      obtain ⟨hh, he0⟩ := hpa
      have k20 := hh.cellR 9
      simp only [paR, List.getElem?_cons_zero, List.getElem?_cons_succ, Nat.reduceAdd] at k20
      have hee : (e == 0) = false := beq_eq_false_iff_ne.2 he0
      have FX : Hid (∀ k, FeedsTo G g M b (.err e) acc w (.returned (.tuple #[rq, .int .i64 e])) (wr.drewN k)) := fun k => ⟨_, cs, G', rfl, by rw [HA.out, List.append_nil]; exact HMC.out, by rw [HA.out, List.append_nil]; exact HIN.out.next (.of_below (HDN.out _ _)) ⟨hh.below (HDN.out _ _), he0⟩, HK.out.trans (.of_below (HDN.out _ _))⟩
      clear hh hsl HSL hszl
      by_cases hne : 0 < s.size
      · have e1 := emp_false s hne
        go_wp2_with fail
        go_quiet (fail)
        go_wp2_with fail
        go_ret2
        exact FX.out _
      · obtain rfl := empty_of s hne
        go_wp2_with fail
        go_quiet (fail)
        go_wp2_with fail
        go_ret2
        exact FX.out _
    | more σ σ1 m t l' acc2 _ hne hb hw h1 hb1 he hz hr =>
      obtain ⟨wt, hh⟩ := hpa
      have hne' : 0 < s.size := by rw [hszl]; exact List.length_pos_iff.2 hne
      have e1 := emp_false s hne'
      have k20 := hh.cellR 9
      have k19 := hh.cellR 8
      have f19 := hh.free 19
      simp only [paR, List.getElem?_cons_zero, List.getElem?_cons_succ, Nat.reduceAdd] at k20 k19
      have D2 : Hid (HeS G' 108 (paR (bs m) (bs t) (.slice none 0 0) true 0) (wr.setCell ⟨g, 19, none⟩ (.bool true)) g M b σ) := hh.setR 8 (.bool true)
      have K2 : Hid (Keep G' wr (wr.setCell ⟨g, 19, none⟩ (.bool true))) := Keep.setCell wr (p := ⟨g, 19, none⟩) hh.gG _
      have U2 : Hid (Up G' (wr.setCell ⟨g, 19, none⟩ (.bool true))) := HIN.out.up.keep K2.out
      have M2 : Hid (∀ w', Keep G' (wr.setCell ⟨g, 19, none⟩ (.bool true)) w' → MaxL w') := fun w' hk => HY.out w' (HK.out.trans ((K2.out.trans hk).more (fun j _ hj => HIN.out.sub j hj)))
      obtain ⟨w2, hw2⟩ : ∃ w2, w2 = wr.setCell ⟨g, 19, none⟩ (.bool true) := ⟨_, rfl⟩
      rw [← hw2] at D2 K2 U2 M2
      have HLT : Hid ((bs (l'.drop (nlAt l'))).size < s.size) := by
        show _ < _
        rw [bs_size, List.length_drop, hszl]
        have := nlAt_pos hne
        have := nlAt_le l'
        have := List.length_pos_iff.2 hne
        omega
      have HST := Lib.hid (step37a G' g M b σ _ _ s (bs (l'.drop (nlAt l'))) 0 hb w2 D2.out (by rw [hsl]; exact fline56 G' g M b σ σ1 m t m t true l' hw h1 _ rfl 0 hz (.inl ⟨hb1, he.symm, rfl, rfl⟩) w2 D2.out U2.out M2.out))
      obtain ⟨y, hy⟩ : ∃ y, y = bs (l'.drop (nlAt l')) := ⟨_, rfl⟩
      have hyl : y.data.toList = l'.drop (nlAt l') := by rw [hy, bs_list]
      rw [← hy] at HST HLT
      have HRR : Hid (PRun M (.on σ1 m t) y.data.toList acc2 pF) := by rw [hyl]; exact hr
      have hff : σ1.fin = false := by cases σ1 <;> first | rfl | cases hb1
      have HW2 := Lib.hid hw2
      have HSZ := Lib.hid hszl
      have HNE := Lib.hid hne
      clear hh hsl hszl hne hw2 hy hyl hb hw h1 hz hb1 he hr
      go_wp2_with fail
      rw [← HW2.out]
      with_reducible refine HST.out.mono ?_
      rintro e9 w3 ⟨rfl, hd3, hk3⟩
      have D3 := Lib.hid hd3
      have K3 := Lib.hid hk3
      clear hd3 hk3
      have HC := Lib.hid (complete38 G' g M b σ1 (bs m) (bs t) (.slice none 0 0) true 0 false hff w3 D3.out)
      clear HST
      go_wp2_with fail
      with_reducible refine HC.out.mono ?_
      rintro e9 w4 ⟨rfl, n, rfl⟩
      have HIN3 : Hid (FdInv G G' g M b (.on σ1 m t) w.heap.size rq acc1.length cs (w3.drewN n)) := HIN.out.next ((K2.out.trans K3.out).trans (.of_below (HDN.out _ _))) ⟨true, D3.out.below (HDN.out _ _)⟩
      have HK3 : Hid (Keep G w (w3.drewN n)) := HK.out.trans (((K2.out.trans K3.out).trans (.of_below (HDN.out _ _))).more (fun j _ hj => HIN.out.sub j hj))
      clear HC
      go_wp2_with fail
      go_roundw
      case rel => exact ⟨y, .on σ1 m t, acc1, acc2, _, rfl, rfl, HRR, HA, ⟨G', cs, HIN3.out, HMC.out⟩, HK3⟩
      case measure => show y.size < s.size; have := HLT.out; omega
    | bad σ σ1 m t l' e hne hb hw h1 hb1 he he0 hz =>
      obtain ⟨wt, hh⟩ := hpa
      have hne' : 0 < s.size := by rw [hszl]; exact List.length_pos_iff.2 hne
      have e1 := emp_false s hne'
      have k20 := hh.cellR 9
      have k19 := hh.cellR 8
      have f19 := hh.free 19
      simp only [paR, List.getElem?_cons_zero, List.getElem?_cons_succ, Nat.reduceAdd] at k20 k19
      have D2 : Hid (HeS G' 108 (paR (bs m) (bs t) (.slice none 0 0) true 0) (wr.setCell ⟨g, 19, none⟩ (.bool true)) g M b σ) := hh.setR 8 (.bool true)
      have K2 : Hid (Keep G' wr (wr.setCell ⟨g, 19, none⟩ (.bool true))) := Keep.setCell wr (p := ⟨g, 19, none⟩) hh.gG _
      have U2 : Hid (Up G' (wr.setCell ⟨g, 19, none⟩ (.bool true))) := HIN.out.up.keep K2.out
      have M2 : Hid (∀ w', Keep G' (wr.setCell ⟨g, 19, none⟩ (.bool true)) w' → MaxL w') := fun w' hk => HY.out w' (HK.out.trans ((K2.out.trans hk).more (fun j _ hj => HIN.out.sub j hj)))
      obtain ⟨w2, hw2⟩ : ∃ w2, w2 = wr.setCell ⟨g, 19, none⟩ (.bool true) := ⟨_, rfl⟩
      rw [← hw2] at D2 K2 U2 M2
      have HLT : Hid ((bs (l'.drop (nlAt l'))).size < s.size) := by
        show _ < _
        rw [bs_size, List.length_drop, hszl]
        have := nlAt_pos hne
        have := nlAt_le l'
        have := List.length_pos_iff.2 hne
        omega
      have HST := Lib.hid (step37a G' g M b σ _ _ s (bs (l'.drop (nlAt l'))) e hb w2 D2.out (by rw [hsl]; exact fline56 G' g M b σ σ1 m t m t true l' hw h1 _ rfl e hz (.inl ⟨hb1, he.symm, rfl, rfl⟩) w2 D2.out U2.out M2.out))
      obtain ⟨y, hy⟩ : ∃ y, y = bs (l'.drop (nlAt l')) := ⟨_, rfl⟩
      have hyl : y.data.toList = l'.drop (nlAt l') := by rw [hy, bs_list]
      rw [← hy] at HST HLT
      have HE0 := Lib.hid he0
      have hee : (e != 0) = true := bne_iff_ne.2 he0
      have HW2 := Lib.hid hw2
      have HSZ := Lib.hid hszl
      have HNE := Lib.hid hne
      clear hh hsl hszl hne hw2 hy hyl hb hw h1 hz hb1 he
      go_wp2_with fail
      rw [← HW2.out]
      with_reducible refine HST.out.mono ?_
      rintro e9 w3 ⟨rfl, hd3, hk3⟩
      have D3 := Lib.hid hd3
      have K3 := Lib.hid hk3
      clear hd3 hk3
      have hov := D3.out.over ⟨0, 0, 0⟩ 0 e
      rw [show max (0 : Int) 0 = 0 by decide] at hov
      have hpz2 : (Tryz.prog.info? 108).map (·.size) = some (paL 0 0 0 0 e).toArray.size := by rw [List.size_toArray, paL_len]; exact infoPa
      have hp1 := paL_one 0 0 0 0 e
      obtain ⟨old, hold, holz⟩ := D3.out.row
      have hoz : old.toArray.size = (paL 0 0 0 0 e).toArray.size := by rw [List.size_toArray, List.size_toArray, holz]; rfl
      have HOLD := Lib.hid hold
      have HIN3 : Hid (FdInv G G' g M b (.err e) w.heap.size rq acc1.length cs (w3.setRow g (paL 0 0 0 0 e).toArray)) := HIN.out.next ((K2.out.trans K3.out).trans hov.2) ⟨hov.1, HE0.out⟩
      have HK3 : Hid (Keep G w (w3.setRow g (paL 0 0 0 0 e).toArray)) := HK.out.trans (((K2.out.trans K3.out).trans hov.2).more (fun j _ hj => HIN.out.sub j hj))
      clear hov hold holz HST
      go_wp2_with (refine wpList_store_row rfl 108 _ _ rfl g (paL 0 0 0 0 e).toArray rfl rfl 108 old.toArray HOLD.out hpz2 hoz hp1 ?_)
      clear hpz2 hoz hp1 HOLD
      go_roundw
      case rel => exact ⟨y, .err e, acc1, [], _, rfl, rfl, .errs e _, HA, ⟨G', cs, HIN3.out, HMC.out⟩, HK3⟩
      case measure => show y.size < s.size; have := HLT.out; omega
    | bad2 σ σ1 m t l' hne hb hw h1 hb1 he hz =>
      obtain ⟨wt, hh⟩ := hpa
      have hne' : 0 < s.size := by rw [hszl]; exact List.length_pos_iff.2 hne
      have e1 := emp_false s hne'
      have k20 := hh.cellR 9
      have k19 := hh.cellR 8
      have f19 := hh.free 19
      simp only [paR, List.getElem?_cons_zero, List.getElem?_cons_succ, Nat.reduceAdd] at k20 k19
      have D2 : Hid (HeS G' 108 (paR (bs m) (bs t) (.slice none 0 0) true 0) (wr.setCell ⟨g, 19, none⟩ (.bool true)) g M b σ) := hh.setR 8 (.bool true)
      have K2 : Hid (Keep G' wr (wr.setCell ⟨g, 19, none⟩ (.bool true))) := Keep.setCell wr (p := ⟨g, 19, none⟩) hh.gG _
      have U2 : Hid (Up G' (wr.setCell ⟨g, 19, none⟩ (.bool true))) := HIN.out.up.keep K2.out
      have M2 : Hid (∀ w', Keep G' (wr.setCell ⟨g, 19, none⟩ (.bool true)) w' → MaxL w') := fun w' hk => HY.out w' (HK.out.trans ((K2.out.trans hk).more (fun j _ hj => HIN.out.sub j hj)))
      obtain ⟨w2, hw2⟩ : ∃ w2, w2 = wr.setCell ⟨g, 19, none⟩ (.bool true) := ⟨_, rfl⟩
      rw [← hw2] at D2 K2 U2 M2
      have HLT : Hid ((bs (l'.drop (nlAt l'))).size < s.size) := by
        show _ < _
        rw [bs_size, List.length_drop, hszl]
        have := nlAt_pos hne
        have := nlAt_le l'
        have := List.length_pos_iff.2 hne
        omega
      have HST := Lib.hid (step37a G' g M b σ _ _ s (bs (l'.drop (nlAt l'))) 2 hb w2 D2.out (by rw [hsl]; exact fline56 G' g M b σ σ1 m t [] [] true l' hw h1 _ rfl 2 hz (.inr ⟨hb1, by rw [he]; rfl⟩) w2 D2.out U2.out M2.out))
      obtain ⟨y, hy⟩ : ∃ y, y = bs (l'.drop (nlAt l')) := ⟨_, rfl⟩
      have hyl : y.data.toList = l'.drop (nlAt l') := by rw [hy, bs_list]
      rw [← hy] at HST HLT
      have HE0 : Hid ((2 : Int) ≠ 0) := by show _ ≠ _; decide
      have HW2 := Lib.hid hw2
      have HSZ := Lib.hid hszl
      have HNE := Lib.hid hne
      clear hh hsl hszl hne hw2 hy hyl hb hw h1 hz hb1 he
      go_wp2_with fail
      rw [← HW2.out]
      with_reducible refine HST.out.mono ?_
      rintro e9 w3 ⟨rfl, hd3, hk3⟩
      have D3 := Lib.hid hd3
      have K3 := Lib.hid hk3
      clear hd3 hk3
      have hov := D3.out.over ⟨0, 0, 0⟩ 0 2
      rw [show max (0 : Int) 0 = 0 by decide] at hov
      have hpz2 : (Tryz.prog.info? 108).map (·.size) = some (paL 0 0 0 0 2).toArray.size := by rw [List.size_toArray, paL_len]; exact infoPa
      have hp1 := paL_one 0 0 0 0 2
      obtain ⟨old, hold, holz⟩ := D3.out.row
      have hoz : old.toArray.size = (paL 0 0 0 0 2).toArray.size := by rw [List.size_toArray, List.size_toArray, holz]; rfl
      have HOLD := Lib.hid hold
      have HIN3 : Hid (FdInv G G' g M b (.err 2) w.heap.size rq acc1.length cs (w3.setRow g (paL 0 0 0 0 2).toArray)) := HIN.out.next ((K2.out.trans K3.out).trans hov.2) ⟨hov.1, HE0.out⟩
      have HK3 : Hid (Keep G w (w3.setRow g (paL 0 0 0 0 2).toArray)) := HK.out.trans (((K2.out.trans K3.out).trans hov.2).more (fun j _ hj => HIN.out.sub j hj))
      clear hov hold holz HST
      go_wp2_with (refine wpList_store_row rfl 108 _ _ rfl g (paL 0 0 0 0 2).toArray rfl rfl 108 old.toArray HOLD.out hpz2 hoz hp1 ?_)
      clear hpz2 hoz hp1 HOLD
      go_roundw
      case rel => exact ⟨y, .err 2, acc1, [], _, rfl, rfl, .errs 2 _, HA, ⟨G', cs, HIN3.out, HMC.out⟩, HK3⟩
      case measure => show y.size < s.size; have := HLT.out; omega
    | good σ σ1 m t l' m1 t1 acc2 _ hne hb hw h1 hb1 hf he hz hr =>
      obtain ⟨wt, hh⟩ := hpa
      have hne' : 0 < s.size := by rw [hszl]; exact List.length_pos_iff.2 hne
      have e1 := emp_false s hne'
      have k20 := hh.cellR 9
      have k19 := hh.cellR 8
      have f19 := hh.free 19
      simp only [paR, List.getElem?_cons_zero, List.getElem?_cons_succ, Nat.reduceAdd] at k20 k19
      have D2 : Hid (HeS G' 108 (paR (bs m) (bs t) (.slice none 0 0) true 0) (wr.setCell ⟨g, 19, none⟩ (.bool true)) g M b σ) := hh.setR 8 (.bool true)
      have K2 : Hid (Keep G' wr (wr.setCell ⟨g, 19, none⟩ (.bool true))) := Keep.setCell wr (p := ⟨g, 19, none⟩) hh.gG _
      have U2 : Hid (Up G' (wr.setCell ⟨g, 19, none⟩ (.bool true))) := HIN.out.up.keep K2.out
      have M2 : Hid (∀ w', Keep G' (wr.setCell ⟨g, 19, none⟩ (.bool true)) w' → MaxL w') := fun w' hk => HY.out w' (HK.out.trans ((K2.out.trans hk).more (fun j _ hj => HIN.out.sub j hj)))
      obtain ⟨w2, hw2⟩ : ∃ w2, w2 = wr.setCell ⟨g, 19, none⟩ (.bool true) := ⟨_, rfl⟩
      rw [← hw2] at D2 K2 U2 M2
      have HLT : Hid ((bs (l'.drop (nlAt l'))).size < s.size) := by
        show _ < _
        rw [bs_size, List.length_drop, hszl]
        have := nlAt_pos hne
        have := nlAt_le l'
        have := List.length_pos_iff.2 hne
        omega
      have HST := Lib.hid (step37a G' g M b σ _ _ s (bs (l'.drop (nlAt l'))) 0 hb w2 D2.out (by rw [hsl]; exact fline56 G' g M b σ σ1 m t m1 t1 true l' hw h1 _ rfl 0 hz (.inr ⟨hb1, by rw [he]; rfl⟩) w2 D2.out U2.out M2.out))
      obtain ⟨y, hy⟩ : ∃ y, y = bs (l'.drop (nlAt l')) := ⟨_, rfl⟩
      have hyl : y.data.toList = l'.drop (nlAt l') := by rw [hy, bs_list]
      rw [← hy] at HST HLT
      have HRR : Hid (PRun M (.on σ1 m1 t1) y.data.toList acc2 pF) := by rw [hyl]; exact hr
      have HW2 := Lib.hid hw2
      have HSZ := Lib.hid hszl
      have HNE := Lib.hid hne
      clear hh hsl hszl hne hw2 hy hyl hb hw h1 hz hb1 he hr
      go_wp2_with fail
      rw [← HW2.out]
      with_reducible refine HST.out.mono ?_
      rintro e9 w3 ⟨rfl, hd3, hk3⟩
      have D3 := Lib.hid hd3
      have K3 := Lib.hid hk3
      clear hd3 hk3
      have HC := Lib.hid (complete38 G' g M b σ1 (bs m1) (bs t1) (.slice none 0 0) true 0 false hf w3 D3.out)
      clear HST
      go_wp2_with fail
      with_reducible refine HC.out.mono ?_
      rintro e9 w4 ⟨rfl, n, rfl⟩
      have HIN3 : Hid (FdInv G G' g M b (.on σ1 m1 t1) w.heap.size rq acc1.length cs (w3.drewN n)) := HIN.out.next ((K2.out.trans K3.out).trans (.of_below (HDN.out _ _))) ⟨true, D3.out.below (HDN.out _ _)⟩
      have HK3 : Hid (Keep G w (w3.drewN n)) := HK.out.trans (((K2.out.trans K3.out).trans (.of_below (HDN.out _ _))).more (fun j _ hj => HIN.out.sub j hj))
      clear HC
      go_wp2_with fail
      go_roundw
      case rel => exact ⟨y, .on σ1 m1 t1, acc1, acc2, _, rfl, rfl, HRR, HA, ⟨G', cs, HIN3.out, HMC.out⟩, HK3⟩
      case measure => show y.size < s.size; have := HLT.out; omega
    | fbad σ m t l' e hne hb hf hw h1 he0 =>
      obtain ⟨wt, hh⟩ := hpa
      have hne' : 0 < s.size := by rw [hszl]; exact List.length_pos_iff.2 hne
      have e1 := emp_false s hne'
      have k20 := hh.cellR 9
      have k19 := hh.cellR 8
      have f19 := hh.free 19
      simp only [paR, List.getElem?_cons_zero, List.getElem?_cons_succ, Nat.reduceAdd] at k20 k19
      have D2 : Hid (HeS G' 108 (paR (bs m) (bs t) (.slice none 0 0) true 0) (wr.setCell ⟨g, 19, none⟩ (.bool true)) g M b σ) := hh.setR 8 (.bool true)
      have K2 : Hid (Keep G' wr (wr.setCell ⟨g, 19, none⟩ (.bool true))) := Keep.setCell wr (p := ⟨g, 19, none⟩) hh.gG _
      have U2 : Hid (Up G' (wr.setCell ⟨g, 19, none⟩ (.bool true))) := HIN.out.up.keep K2.out
      have M2 : Hid (∀ w', Keep G' (wr.setCell ⟨g, 19, none⟩ (.bool true)) w' → MaxL w') := fun w' hk => HY.out w' (HK.out.trans ((K2.out.trans hk).more (fun j _ hj => HIN.out.sub j hj)))
      obtain ⟨w2, hw2⟩ : ∃ w2, w2 = wr.setCell ⟨g, 19, none⟩ (.bool true) := ⟨_, rfl⟩
      rw [← hw2] at D2 K2 U2 M2
      have HLT : Hid ((⟨#[]⟩ : ByteArray).size < s.size) := hne'
      have HST := Lib.hid (step37b G' g M b σ _ _ s ⟨#[]⟩ e hb hf w2 D2.out (by rw [hsl]; have := fflds57 G' g M b σ (.err e) (bs m) (bs t) true l' hw h1 rfl w2 D2.out U2.out M2.out; rw [show (HdS.err e).errOf = e from rfl, if_neg he0] at this; exact this))
      obtain ⟨y, hy⟩ : ∃ y : ByteArray, y = ⟨#[]⟩ := ⟨_, rfl⟩
      rw [← hy] at HST HLT
      have HE0 := Lib.hid he0
      have hee : (e != 0) = true := bne_iff_ne.2 he0
      have HW2 := Lib.hid hw2
      have HSZ := Lib.hid hszl
      have HNE := Lib.hid hne
      clear hh hsl hszl hne hw2 hb hf hw h1 hy
      go_wp2_with fail
      rw [← HW2.out]
      with_reducible refine HST.out.mono ?_
      rintro e9 w3 ⟨rfl, hd3, hk3⟩
      have D3 := Lib.hid hd3
      have K3 := Lib.hid hk3
      clear hd3 hk3
      have hov := D3.out.over ⟨0, 0, 0⟩ 0 e
      rw [show max (0 : Int) 0 = 0 by decide] at hov
      have hpz2 : (Tryz.prog.info? 108).map (·.size) = some (paL 0 0 0 0 e).toArray.size := by rw [List.size_toArray, paL_len]; exact infoPa
      have hp1 := paL_one 0 0 0 0 e
      obtain ⟨old, hold, holz⟩ := D3.out.row
      have hoz : old.toArray.size = (paL 0 0 0 0 e).toArray.size := by rw [List.size_toArray, List.size_toArray, holz]; rfl
      have HOLD := Lib.hid hold
      have HIN3 : Hid (FdInv G G' g M b (.err e) w.heap.size rq acc1.length cs (w3.setRow g (paL 0 0 0 0 e).toArray)) := HIN.out.next ((K2.out.trans K3.out).trans hov.2) ⟨hov.1, HE0.out⟩
      have HK3 : Hid (Keep G w (w3.setRow g (paL 0 0 0 0 e).toArray)) := HK.out.trans (((K2.out.trans K3.out).trans hov.2).more (fun j _ hj => HIN.out.sub j hj))
      clear hov hold holz HST
      go_wp2_with (refine wpList_store_row rfl 108 _ _ rfl g (paL 0 0 0 0 e).toArray rfl rfl 108 old.toArray HOLD.out hpz2 hoz hp1 ?_)
      clear hpz2 hoz hp1 HOLD
      go_roundw
      case rel => exact ⟨y, .err e, acc1, [], _, rfl, rfl, .errs e _, HA, ⟨G', cs, HIN3.out, HMC.out⟩, HK3⟩
      case measure => show y.size < s.size; have := HLT.out; omega
    | fdone σ m t l' fl fs acc2 _ hne hb hf hw h1 hn hr =>
      obtain ⟨wt, hh⟩ := hpa
      have hne' : 0 < s.size := by rw [hszl]; exact List.length_pos_iff.2 hne
      have e1 := emp_false s hne'
      have k20 := hh.cellR 9
      have k19 := hh.cellR 8
      have f19 := hh.free 19
      simp only [paR, List.getElem?_cons_zero, List.getElem?_cons_succ, Nat.reduceAdd] at k20 k19
      have D2 : Hid (HeS G' 108 (paR (bs m) (bs t) (.slice none 0 0) true 0) (wr.setCell ⟨g, 19, none⟩ (.bool true)) g M b σ) := hh.setR 8 (.bool true)
      have K2 : Hid (Keep G' wr (wr.setCell ⟨g, 19, none⟩ (.bool true))) := Keep.setCell wr (p := ⟨g, 19, none⟩) hh.gG _
      have U2 : Hid (Up G' (wr.setCell ⟨g, 19, none⟩ (.bool true))) := HIN.out.up.keep K2.out
      have M2 : Hid (∀ w', Keep G' (wr.setCell ⟨g, 19, none⟩ (.bool true)) w' → MaxL w') := fun w' hk => HY.out w' (HK.out.trans ((K2.out.trans hk).more (fun j _ hj => HIN.out.sub j hj)))
      obtain ⟨w2, hw2⟩ : ∃ w2, w2 = wr.setCell ⟨g, 19, none⟩ (.bool true) := ⟨_, rfl⟩
      rw [← hw2] at D2 K2 U2 M2
      have hlt' := hLeft_lt M σ l' hf hne
      have HLT : Hid ((bs (hLeft M σ l')).size < s.size) := by
        show _ < _
        rw [bs_size, hszl]
        exact hlt'
      have HST : Hid (Calls Tryz.prog 58 #[.pointer (some ⟨g, 0, none⟩), .string s] w2 fun x w' => x = .returned (.tuple #[.string (bs (hLeft M σ l')), .int .i64 0]) ∧ ∃ a c, HeS G' 108 (paR (bs m) (bs t) (.slice a fs.length c) true 0) w' g M b (.done fl fs) ∧ Keep G' w2 w') := by
        obtain ⟨h0, n1, n2, n3, n4, n5, n6⟩ := hn
        refine step37b G' g M b σ _ _ s _ 0 hb hf w2 D2.out ?_
        rw [hsl]
        refine (fflds57d G' g M b σ (bs m) (bs t) true l' hw fl fs h1 h0 n5 n6 n1 n2 n3 n4 w2 D2.out U2.out M2.out).mono ?_
        rintro e9 w9 ⟨a, c, rfl, h2, h3⟩
        exact ⟨rfl, a, c, h2, h3⟩
      obtain ⟨y, hy⟩ : ∃ y, y = bs (hLeft M σ l') := ⟨_, rfl⟩
      have hyl : y.data.toList = hLeft M σ l' := by rw [hy, bs_list]
      rw [← hy] at HST HLT
      have HRR : Hid (PRun M (.on hd0 [] []) y.data.toList acc2 pF) := by rw [hyl]; exact hr
      have HW2 := Lib.hid hw2
      have HSZ := Lib.hid hszl
      have HNE := Lib.hid hne
      clear hh hsl hszl hne hw2 hlt' hb hf hw h1 hy hyl hr hn
      go_wp2_with fail
      rw [← HW2.out]
      with_reducible refine HST.out.mono ?_
      rintro e9 w3 ⟨rfl, fa, fc, hd3, hk3⟩
      have D3 := Lib.hid hd3
      have K3 := Lib.hid hk3
      clear hd3 hk3 HST
      obtain ⟨fn, hfn⟩ : ∃ fn, fn = fs.length := ⟨_, rfl⟩
      rw [← hfn] at D3 HA
      have HC := Lib.hid (complete38 G' g M b (.done fl fs) (bs m) (bs t) (.slice fa fn fc) true 0 true rfl w3 D3.out)
      clear hfn
      go_wp2_with fail
      with_reducible refine HC.out.mono ?_
      rintro e9 w4 ⟨rfl, n, rfl⟩
      have D4 : Hid (HeS G' 108 (paR (bs m) (bs t) (.slice fa fn fc) true 0) (w3.drewN n) g M b (.done fl fs)) := D3.out.below (HDN.out _ _)
      have K4 : Hid (Keep G' wr (w3.drewN n)) := (K2.out.trans K3.out).trans (.of_below (HDN.out _ _))
      have HF := Lib.hid (finish39 G' g M b (.done fl fs) (bs m) (bs t) fa fn fc true (fun e he => by cases he) _ D4.out (HIN.out.up.keep K4.out))
      clear HC
      go_wp2_with fail
      with_reducible refine HF.out.mono ?_
      rintro e9 w5 ⟨rfl, hd5, hk5⟩
      have HIN5 := Lib.hid (HIN.out.next (p' := .on hd0 [] []) (K4.out.trans hk5) ⟨false, hd5⟩)
      have K5 := Lib.hid (K4.out.trans hk5)
      have HB5 : Hid (w.heap.size ≤ w5.heap.size) := Nat.le_trans HK.out.size K5.out.size
      have HNW := Lib.hid (cells_new5 w5 (.string (bs m)) (.string (bs t)) (.slice fa fn fc) (.string ⟨#[]⟩) (.int .i64 0) 45)
      have HO5 := Lib.hid (HIN5.out.own.alloc (.cells #[.string (bs m), .string (bs t), .slice fa fn fc, .string ⟨#[]⟩, .int .i64 0] 45))
      obtain ⟨an, han⟩ : ∃ an, an = acc1.length := ⟨_, rfl⟩
      rw [← han] at HO5 HIN5
      have hanz : an ≤ 100000000 := by rw [han]; exact HAL.out
      have HAN := Lib.hid han
      have hb5 := HB5.out
      clear hd5 hk5 HF han
      go_wp2_with (at_builtin; refine wpList_append_own_at _ rfl _ _ 58 rfl w.heap.size 45 i0 (.agg #[.string ⟨#[]⟩, .string ⟨#[]⟩, .slice none 0 0, .string ⟨#[]⟩, .int .i64 0]) 5 80 Tryz.underlying58 hi hz0 hz1 hz2 rfl (by decide) _ _ _ rfl HO5.out ⟨w5.heap.size, 0, none⟩ 1 1 [.string (bs m), .string (bs t), .slice fa fn fc, .string ⟨#[]⟩, .int .i64 0] rfl rfl HNW.out (by intro u hu; simp at hu; rcases hu with rfl | rfl | rfl | rfl | rfl <;> rfl) (by unfold maxLen; omega) (by omega) (by simp; omega) ?_)
      intro v' w6 hown' hgrow _ hat
      have HP6 := HIN5.out.put _ (fun j hj => HU.out j (Nat.le_trans HB5.out hj)) hgrow (hat.imp id (fun e => e.trans (by simp))) hown'
      have HIN6 := Lib.hid HP6.1
      have HK6 : Hid (Keep G w w6) := (HK.out.trans (K5.out.more (fun j _ hj => HIN.out.sub j hj))).trans (HP6.2.more (fun k _ hk => HU.out k hk))
      have HMC6 : Hid (MsgCells (acc1 ++ [(m, t, fn)]) (cs ++ [.string (bs m), .string (bs t), .slice fa fn fc, .string ⟨#[]⟩, .int .i64 0])) := msg_snoc (m, t, fn) fa fc HMC.out
      have HA6 : Hid (acc = (acc1 ++ [(m, t, fn)]) ++ acc2) := by show _ = _; rw [HA.out]; simp
      have HI6 : Hid (∃ G' cs, FdInv G G' g M b (.on hd0 [] []) w.heap.size v' (acc1 ++ [(m, t, fn)]).length cs w6 ∧ MsgCells (acc1 ++ [(m, t, fn)]) cs) := ⟨_, _, by rw [List.length_append, ← HAN.out]; exact HIN6.out, HMC6.out⟩
      clear hown' hgrow hat HP6 HIN6 HMC6 HNW HO5 HIN5 K5 HIN
      go_wp2_with fail
      go_roundw
      case rel => exact ⟨y, .on hd0 [] [], acc1 ++ [(m, t, fn)], acc2, _, rfl, rfl, HRR, HA6, HI6, HK6⟩
      case measure => show y.size < s.size; have := HLT.out; omega
end Go.Proofs.YtbbphklhnngjmaaGreatDoor

