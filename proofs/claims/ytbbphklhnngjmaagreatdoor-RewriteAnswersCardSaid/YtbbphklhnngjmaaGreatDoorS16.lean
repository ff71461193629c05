/- Packed: RsB, RsC, RsD, RsE. -/
import Derived.Test.YtbbphklhnngjmaaGreatDoorS15
/- response: a parser in memory; beginBody (written by genrsb.py). -/
namespace Go.Proofs.YtbbphklhnngjmaaGreatDoor.R
open Go.RowKit

/-- What holds in beginBody's first region. -/
structure BegS (w : World) (fs : List Fld) (L : (Nat → Bool)) (x : Nat → Value) (w1 : World) : Prop where
  a : Below w.heap.size w w1
  f : L 13 = true → ∃ a c, x 13 = .slice a fs.length c ∧ IsFlds w1 a c fs
theorem BegS.keep {w : World} {fs : List Fld} {L : (Nat → Bool)} {x : Nat → Value} {w1 : World} (h : BegS w fs L x w1) (i : Nat) (u : Value) (hi : i ≠ 13) : BegS w fs (setL L i) (updV x i u) w1 := by
  refine ⟨h.a, ?_⟩
  have e1 : setL L i 13 = L 13 := by simp only [setL, if_neg (Ne.symm hi)]
  have e2 : updV x i u 13 = x 13 := by simp only [updV, if_neg (Ne.symm hi)]
  rw [e1, e2]
  exact h.f
theorem BegS.more {w : World} {fs : List Fld} {L : (Nat → Bool)} {x : Nat → Value} {w1 w2 : World} (h : BegS w fs L x w1) (hb : Below w1.heap.size w1 w2) : BegS w fs L x w2 := by
  refine ⟨h.a.trans (hb.mono h.a.size), fun hl => ?_⟩
  obtain ⟨a, c, h1, h2⟩ := h.f hl
  exact ⟨a, c, h1, h2.below hb⟩
set_option maxRecDepth 100000 in
set_option maxHeartbeats 8000000 in
theorem begin118 (G : Nat → Prop) (g : Nat) (M : HdL) (b : Int) (σ : HdS) (hne : ∀ e, σ ≠ .err e) (mt r : List UInt8) (cd : Int) (fs : List Fld) (hfs : σ.fldsOf = fs) (hfl : fs.length ≤ 1000000) (hok : ∀ f ∈ fs, FldOk f) (k n : Int) (hF : FramesR mt cd b fs k n)
    (w : World) (hS : Syn w) (h : HeS G 114 (psR mt cd r 0 0 (.slice none 0 0) true false) w g M b σ) :
    Calls Tryz.prog 118 #[.pointer (some ⟨g, 0, none⟩)] w fun x w' => x = .returned (.int .i64 0) ∧ HeS G 114 (psR mt cd r k n (.slice none 0 0) true false) w' g M b σ ∧ Keep G w w' := by
  have HFL := Lib.hid (fun W hw => hfields15b G 114 (psR mt cd r 0 0 (.slice none 0 0) true false) g M b σ (by rw [hfs]; omega) W hw)
  rw [hfs] at HFL
  have HFR := Lib.hid (fun a c W hS h => framed138 mt cd a c fs b k n hfl hok hF W hS h)
  have HD := Lib.hid h
  have HSY := Lib.hid hS
  have HNE := Lib.hid hne
  have hk : k = 0 ∨ k = 1 := by
    rcases hF with ⟨_, h, _⟩ | ⟨_, h, _⟩
    · exact .inl h
    · exact .inr h
  have hk2 : (k == 2) = false := by rcases hk with rfl | rfl <;> rfl
  have hk3 : (k == 3) = false := by rcases hk with rfl | rfl <;> rfl
  obtain ⟨MT, hMT⟩ : ∃ MT, MT = bs mt := ⟨_, rfl⟩
  have HMT := Lib.hid hMT
  rw [← hMT] at HFR
  clear h hF hok hS hne hfs hfl hk hMT
  go_enter Tryz.func118, Tryz.ntmps118
  go_upto_region 1 with fail
  refine region_mixt 28 [some (.pointer (some ⟨g, 0, none⟩)), some (.pointer (some ⟨g, 0, none⟩)), some (.pointer (some ⟨g, 0, none⟩)), some (.string MT), some (.pointer (some ⟨g, 0, none⟩)), some (.pointer (some ⟨g, 0, none⟩)), some (.pointer (some ⟨g, 12, none⟩)), some (.pointer (some ⟨g, 12, none⟩)), some (.pointer (some ⟨g, 12, none⟩)), some (.int .i64 cd), some (.pointer (some ⟨g, 0, none⟩)), some (.pointer (some ⟨g, 0, none⟩)), some (.pointer (some ⟨g, 1, none⟩)), none, some (.pointer (some ⟨g, 0, none⟩)), some (.pointer (some ⟨g, 0, none⟩)), some (.pointer (some ⟨g, 1, none⟩)), some (.pointer (some ⟨g, 1, none⟩)), some (.pointer (some ⟨g, 4, none⟩)), some (.int .i64 b), some (.tuple #[.int .i64 k, .int .i64 n, .int .i64 0]), some (.tuple #[.int .i64 k, .int .i64 n, .int .i64 0]), some (.int .i64 k), some (.int .i64 n), some (.int .i64 0), some (.int .i64 k), some (.int .i64 n), some (.int .i64 0)]
    [[false, false, false, false, false, false, false, false, false, false, false, false, false, false, false, false, false, false, false, false, false, false, false, false, false, false, false, false], [true, false, false, false, false, false, false, false, false, false, false, false, false, false, false, false, false, false, false, false, false, false, false, false, false, false, false, false], [false, true, false, false, false, false, false, false, false, false, false, false, false, false, false, false, false, false, false, false, false, false, false, false, false, false, false, false], [false, false, true, false, false, false, false, false, false, false, false, false, false, false, false, false, false, false, false, false, false, false, false, false, false, false, false, false], [false, false, false, false, false, false, false, false, false, false, false, false, false, false, false, false, false, false, false, false, false, false, false, false, false, false, false, false], [false, false, false, false, true, false, false, false, false, false, false, false, false, false, false, false, false, false, false, false, false, false, false, false, false, false, false, false], [false, false, false, false, false, true, false, false, false, false, false, false, false, false, false, false, false, false, false, false, false, false, false, false, false, false, false, false], [false, false, false, false, false, false, true, false, false, false, false, false, false, false, false, false, false, false, false, false, false, false, false, false, false, false, false, false], [false, false, false, false, false, false, false, true, false, false, false, false, false, false, false, false, false, false, false, false, false, false, false, false, false, false, false, false], [false, false, false, false, false, false, false, false, true, false, false, false, false, false, false, false, false, false, false, false, false, false, false, false, false, false, false, false], [false, false, false, false, false, false, false, false, false, false, false, false, false, false, false, false, false, false, false, false, false, false, false, false, false, false, false, false], [false, false, false, false, false, false, false, false, false, false, true, false, false, false, false, false, false, false, false, false, false, false, false, false, false, false, false, false], [false, false, false, false, false, false, false, false, false, false, false, true, false, false, false, false, false, false, false, false, false, false, false, false, false, false, false, false], [false, false, false, false, false, false, false, false, false, false, false, false, true, false, false, false, false, false, false, false, false, false, false, false, false, false, false, false], [false, false, false, false, false, false, false, false, false, false, false, false, false, false, false, false, false, false, false, false, false, false, false, false, false, false, false, false], [false, false, false, false, false, false, false, false, false, false, false, false, false, false, true, false, false, false, false, false, false, false, false, false, false, false, false, false], [false, false, false, false, false, false, false, false, false, false, false, false, false, false, false, true, false, false, false, false, false, false, false, false, false, false, false, false], [false, false, false, false, false, false, false, false, false, false, false, false, false, false, false, false, true, false, false, false, false, false, false, false, false, false, false, false], [false, false, false, false, false, false, false, false, false, false, false, false, false, false, false, false, false, true, false, false, false, false, false, false, false, false, false, false], [false, false, false, false, false, false, false, false, false, false, false, false, false, false, false, false, false, false, true, false, false, false, false, false, false, false, false, false], [false, false, false, true, false, false, false, false, false, true, false, false, false, true, false, false, false, false, false, true, false, false, false, false, false, false, false, false], [false, false, false, false, false, false, false, false, false, false, false, false, false, false, false, false, false, false, false, false, true, false, false, false, false, false, false, false], [false, false, false, false, false, false, false, false, false, false, false, false, false, false, false, false, false, false, false, false, false, true, false, false, false, false, false, false], [false, false, false, false, false, false, false, false, false, false, false, false, false, false, false, false, false, false, false, false, false, true, false, false, false, false, false, false], [false, false, false, false, false, false, false, false, false, false, false, false, false, false, false, false, false, false, false, false, false, true, false, false, false, false, false, false], [true, true, true, true, true, true, true, true, true, true, true, true, true, true, true, true, true, true, true, true, true, true, true, false, false, false, false, false], [true, true, true, true, true, true, true, true, true, true, true, true, true, true, true, true, true, true, true, true, true, true, true, true, false, true, false, false], [true, true, true, true, true, true, true, true, true, true, true, true, true, true, true, true, true, true, true, true, true, true, true, true, true, true, true, false]]
    (fun L x w1 => BegS w fs L x w1)
    (by kernel_rfl) (by kernel_rfl) (by kernel_rfl) (by kernel_rfl) (by kernel_rfl) (by decide) ?_ ?_ ?_
  · intro _
    exact ⟨⟨rfl, rfl, rfl, Nat.le_refl _, fun _ _ => rfl⟩, fun h => by cases h⟩
  · simp only [List.take_succ_cons, List.take_zero]
    refine ⟨?_, ?_, ?_, ?_, ?_, ?_, ?_, ?_, ?_, ?_, ?_, ?_, ?_, ?_, ?_, ?_, ?_, ?_, ?_, ?_, ?_, ?_, ?_, ?_, ?_, ?_, ?_, ?_, trivial⟩
    all_goals
      intro L x w9 hS hl hp K9 hK9
      have hs : BegS w fs L x w9 := hS
      clear hS
      replace hK9 := hK9.out
      simp only [actMix, pickV, List.tail_cons, List.headD_cons, Act.put, List.setIfInBounds_toArray, List.set_cons_zero, List.set_cons_succ] at hK9 ⊢
    · clear hp
      go_simp
      with_reducible refine hK9 _ ?_
      exact hs.keep _ _ (by decide)
    · clear hp
      go_simp
      with_reducible refine hK9 _ ?_
      exact hs.keep _ _ (by decide)
    · clear hp
      go_simp
      with_reducible refine hK9 _ ?_
      exact hs.keep _ _ (by decide)
    · clear hp
      have q0 := (HD.out.below hs.a).cell0
      simp only [psR, List.headD_cons] at q0
      rw [← HMT.out] at q0
      go_simp
      with_reducible refine hK9 _ ?_
      exact hs.keep _ _ (by decide)
    · clear hp
      go_simp
      with_reducible refine hK9 _ ?_
      exact hs.keep _ _ (by decide)
    · clear hp
      go_simp
      with_reducible refine hK9 _ ?_
      exact hs.keep _ _ (by decide)
    · clear hp
      go_simp
      with_reducible refine hK9 _ ?_
      exact hs.keep _ _ (by decide)
    · clear hp
      go_simp
      with_reducible refine hK9 _ ?_
      exact hs.keep _ _ (by decide)
    · clear hp
      go_simp
      with_reducible refine hK9 _ ?_
      exact hs.keep _ _ (by decide)
    · clear hp
      have q0 := (HD.out.below hs.a).cellR 0
      simp only [psR, List.tail_cons, List.getElem?_cons_zero, Nat.reduceAdd] at q0
      go_simp
      with_reducible refine hK9 _ ?_
      exact hs.keep _ _ (by decide)
    · clear hp
      go_simp
      with_reducible refine hK9 _ ?_
      exact hs.keep _ _ (by decide)
    · clear hp
      go_simp
      with_reducible refine hK9 _ ?_
      exact hs.keep _ _ (by decide)
    · clear hp
      go_simp
      with_reducible refine hK9 _ ?_
      exact hs.keep _ _ (by decide)
    · clear hp
      have HDX := Lib.hid (HD.out.below hs.a)
      go_simp
      with_reducible refine (HFL.out w9 HDX.out).mono ?_
      rintro e9 w8 ⟨a9, c9, rfl, hlt9, hf9, hb9⟩
      with_reducible refine hK9 _ _ ?_
      exact ⟨hs.a.trans (hb9.mono hs.a.size), fun _ => ⟨a9, c9, by simp [updV], hf9⟩⟩
    · clear hp
      go_simp
      with_reducible refine hK9 _ ?_
      exact hs.keep _ _ (by decide)
    · clear hp
      go_simp
      with_reducible refine hK9 _ ?_
      exact hs.keep _ _ (by decide)
    · clear hp
      go_simp
      with_reducible refine hK9 _ ?_
      exact hs.keep _ _ (by decide)
    · clear hp
      go_simp
      with_reducible refine hK9 _ ?_
      exact hs.keep _ _ (by decide)
    · clear hp
      go_simp
      with_reducible refine hK9 _ ?_
      exact hs.keep _ _ (by decide)
    · clear hp
      have q0 := (HD.out.below hs.a).cellB HNE.out
      go_simp
      with_reducible refine hK9 _ ?_
      exact hs.keep _ _ (by decide)
    · have h13 : L 13 = true := allL_mem hp 13 (by decide +kernel)
      obtain ⟨a9, c9, hx9, hf9⟩ := hs.f h13
      have S9 := Lib.hid (HSY.out.below hs.a)
      clear hp
      rw [hx9] at hK9 ⊢
      go_simp
      with_reducible refine (HFR.out a9 c9 w9 S9.out hf9).mono ?_
      rintro e9 w8 ⟨rfl, hb9⟩
      with_reducible refine hK9 _ ?_
      exact (hs.more hb9).keep _ _ (by decide)
    · clear hp
      go_simp
      with_reducible refine hK9 _ ?_
      exact hs.keep _ _ (by decide)
    · clear hp
      go_simp
      with_reducible refine hK9 _ ?_
      exact hs.keep _ _ (by decide)
    · clear hp
      go_simp
      with_reducible refine hK9 _ ?_
      exact hs.keep _ _ (by decide)
    · clear hp
      go_simp
      with_reducible refine hK9 _ ?_
      exact hs.keep _ _ (by decide)
    · clear hp
      go_simp
      with_reducible refine hK9 _ ?_
      exact hs.keep _ _ (by decide)
    · clear hp
      go_simp
      with_reducible refine hK9 _ ?_
      exact hs.keep _ _ (by decide)
    · clear hp
      go_simp
      with_reducible refine hK9 _ ?_
      exact hs.keep _ _ (by decide)
  intro L x w1 hS hL
  have hb1 : Below w.heap.size w w1 := hS.a
  clear hS hL
  simp only [actMix, pickV, List.tail_cons, List.headD_cons, Act.put, List.setIfInBounds_toArray, List.set_cons_zero, List.set_cons_succ, List.replicate_succ, List.replicate_zero, List.drop_succ_cons, List.drop_zero, List.take_succ_cons, List.take_zero]
  have D1 := Lib.hid (HD.out.below hb1)
  have f16 := D1.out.free 16
  have f17 := D1.out.free 17
  have k16 := D1.out.cellR 4
  have k17 := D1.out.cellR 5
  simp only [psR, List.tail_cons, List.getElem?_cons_zero, List.getElem?_cons_succ, Nat.reduceAdd] at k16 k17
  have HR : Hid (HeS G 114 (psR mt cd r k n (.slice none 0 0) true false) ((w1.setCell ⟨g, 16, none⟩ (.int .i64 k)).setCell ⟨g, 17, none⟩ (.int .i64 n)) g M b σ) :=
    (D1.out.setR 4 (.int .i64 k)).setR 5 (.int .i64 n)
  have K : ∀ (v : World) (i : Nat) (u : Value), Keep G v (v.setCell ⟨g, i, none⟩ u) := fun v i u => Keep.setCell v (p := ⟨g, i, none⟩) D1.out.gG u
  have HK : Hid (Keep G w ((w1.setCell ⟨g, 16, none⟩ (.int .i64 k)).setCell ⟨g, 17, none⟩ (.int .i64 n))) := ((Keep.of_below hb1).trans (K _ _ _)).trans (K _ _ _)
  clear hb1 D1 K HD HFL HFR HSY HNE
  go_wp2_with fail
  go_ret
  exact ⟨rfl, HR.out, HK.out⟩
end Go.Proofs.YtbbphklhnngjmaaGreatDoor.R

/- response: a parser in memory; feedHead (written by genrsc.py). -/
namespace Go.Proofs.YtbbphklhnngjmaaGreatDoor.R
open Go.RowKit

/-- There is a byte 10. -/
def Found (l : List UInt8) : Prop := ∃ k : Nat, Lib.indexByte l 10 = (k : Int) ∧ nlAt l = k + 1 ∧ k < l.length
theorem found_of (M : HdL) (σ : HdS) (s fl : List UInt8) (fs : List Fld) (hf : σ.fin = false) (h : hRun M σ s = .done fl fs) : Found s := by
  rcases ib_cut 10 s with ⟨_, hn⟩ | ⟨i, hi, hl, _, _⟩
  · have := run_nofin M s σ hn hf
    rw [h] at this
    cases this
  · refine ⟨i, hi, ?_, hl⟩
    unfold nlAt
    rw [if_neg (by omega), hi]
    omega
set_option maxRecDepth 100000 in
set_option maxHeartbeats 4000000 in
theorem fhead96a (G : Nat → Prop) (g : Nat) (M : HdL) (b : Int) (σ σ1 : HdS) (mt : List UInt8) (c0 : Int) (r0 : List UInt8) (l : List UInt8) (hfd : Found l) (hbd : σ.wt + 4 * l.length ≤ 1000000000) (h1 : hRun M σ (l.take (nlAt l)) = σ1) (hb0 : σ.begun = false) (hb1 : σ1.begun = true) (he : σ1.errOf = 0) (cd : Int) (rs : List UInt8) (hst : stP σ1.firstOf = some (cd, rs)) (hfz : σ1.firstOf.length ≤ 4000000000)
    (w : World) (h : HeS G 114 (psR mt c0 r0 0 0 (.slice none 0 0) true false) w g M b σ) (hu : Up G w) (hM : ∀ w', Keep G w w' → MaxL w') (hY : ∀ w', Keep G w w' → Syn w') :
    Calls Tryz.prog 96 #[.pointer (some ⟨g, 0, none⟩), .string (bs l)] w fun x w' => x = .returned (.tuple #[.string (bs (l.drop (nlAt l))), .int .i64 0]) ∧ HeS G 114 (psR mt cd rs 0 0 (.slice none 0 0) true false) w' g M b σ1 ∧ Keep G w w' := by
  have hlz := bs_size l
  have HIB := Lib.hid (fun W => calls_flop (Tryz.strings_IndexByte (bs l) 10 W))
  obtain ⟨k, hi, hnv, hkl⟩ := hfd
  obtain ⟨n, hn⟩ : ∃ n, n = nlAt l := ⟨_, rfl⟩
  rw [← hn] at h1 hnv ⊢
  have HF := Lib.hid (fun W hw hu hM => hfeed10 G 114 (psR mt c0 r0 0 0 (.slice none 0 0) true false) g M b σ (l.take n) (by rw [List.length_take]; omega) W hw hu hM)
  unfold HFeedTo at HF
  rw [h1] at HF
  obtain ⟨z, hz⟩ : ∃ z, z = bs (if σ1.errOf = 0 then hLeft M σ (l.take n) else []) := ⟨_, rfl⟩
  rw [← hz, he] at HF
  have HD := Lib.hid h
  have HM := Lib.hid hM
  have HY := Lib.hid hY
  obtain ⟨s, hs⟩ : ∃ s, s = bs l := ⟨_, rfl⟩
  have x0 : s.extract 0 n = bs (l.take n) := by rw [hs]; exact ext_bs0 l n
  have x1 : s.extract n s.size = bs (l.drop n) := by rw [hs]; exact ext_bs1 l n
  rw [← hs] at HIB hlz ⊢
  rw [show s.data.toList = l by rw [hs, bs_list], show (10 : Int).toNat.toUInt8 = 10 from rfl] at HIB
  obtain ⟨y0, hy0⟩ : ∃ y0, y0 = bs (l.take n) := ⟨_, rfl⟩
  obtain ⟨y1, hy1⟩ : ∃ y1, y1 = bs (l.drop n) := ⟨_, rfl⟩
  rw [← hy0] at x0 HF
  rw [← hy1] at x1 ⊢
  have hn1 : n ≤ s.size := by omega
  have hn2 : s.size ≤ 1000000000 := by omega
  have HB0 := Lib.hid (hbegunS G 114 (psR mt c0 r0 0 0 (.slice none 0 0) true false) g M b σ w h)
  rw [hb0] at HB0
  have HBG := Lib.hid (fun W hw => hbegunS G 114 (psR mt c0 r0 0 0 (.slice none 0 0) true false) g M b σ1 W hw)
  rw [hb1] at HBG
  have HFI := Lib.hid (fun W hw => hfirstS G 114 (psR mt c0 r0 0 0 (.slice none 0 0) true false) g M b σ1 W hw)
  have HPR := Lib.hid (fun W hw hy => pst13 (bs σ1.firstOf) (by rw [bs_size]; exact hfz) W hw hy)
  rw [bs_list, hst] at HPR
  unfold stO at HPR
  simp only at HPR
  have DN : ∀ k, Below w.heap.size w (w.drewN k) := fun k => ⟨rfl, rfl, rfl, Nat.le_refl _, fun _ _ => rfl⟩
  have HDR : Hid (HeS G 114 (psR mt c0 r0 0 0 (.slice none 0 0) true false) w.drew g M b σ) := h.below (DN 1)
  have KDR : Hid (Keep G w w.drew) := Keep.drew w
  have HU : Hid (Up G w.drew) := hu.keep KDR
  clear h hu hM hY hn h1 hz hs hy0 hy1 DN hbd hb0 he hb1 hst hfz
  rw [hi] at HIB
  have hkn : (k : Int) + 1 = (n : Int) := by omega
  have hk2 : ((n : Int) == 0) = false := beq_eq_false_iff_ne.2 (by omega)
  have hk3 : (n : Int) ≤ s.size := by omega
  have hk4 : (n : Int) ≠ 0 := by omega
  have hk5 : k ≤ 1000000000 := by omega
  clear hnv hkl hlz hi
  go_enter Tryz.func96, Tryz.ntmps96
  go_wp2_with fail
  refine (HIB.out w).mono ?_
  rintro e w' ⟨rfl, rfl⟩
  go_wp2_with fail
  with_reducible refine HB0.out.mono ?_
  rintro e w' ⟨rfl, rfl⟩
  go_upto_region 1 with fail
  refine region_mixt 12 [some (.pointer (some ⟨g, 0, none⟩)), some (.pointer (some ⟨g, 0, none⟩)), some (.pointer (some ⟨g, 1, none⟩)), some (.string s), some (.int .i64 (n : Int)), some (.string y0), some (.tuple #[.string z, .int .i64 0]), some (.tuple #[.string z, .int .i64 0]), some (.string z), some (.int .i64 0), some (.string z), some (.int .i64 0)]
    [[false, false, false, false, false, false, false, false, false, false, false, false], [true, false, false, false, false, false, false, false, false, false, false, false], [false, true, false, false, false, false, false, false, false, false, false, false], [false, false, false, false, false, false, false, false, false, false, false, false], [false, false, false, false, false, false, false, false, false, false, false, false], [false, false, false, true, true, false, false, false, false, false, false, false], [false, false, true, false, false, true, false, false, false, false, false, false], [false, false, false, false, false, false, true, false, false, false, false, false], [false, false, false, false, false, false, false, true, false, false, false, false], [false, false, false, false, false, false, false, true, false, false, false, false], [true, true, true, true, true, true, true, true, true, false, false, false], [true, true, true, true, true, true, true, true, true, true, true, false]]
    (fun L x w1 => (L 6 = false ∧ w1 = w.drew) ∨ (L 6 = true ∧ HeS G 114 (psR mt c0 r0 0 0 (.slice none 0 0) true false) w1 g M b σ1 ∧ Keep G w w1))
    (by kernel_rfl) (by kernel_rfl) (by kernel_rfl) (by kernel_rfl) (by kernel_rfl) (by decide) ?_ ?_ ?_
  · intro _
    exact .inl ⟨rfl, rfl⟩
  · simp only [List.take_succ_cons, List.take_zero]
    refine ⟨?_, ?_, ?_, ?_, ?_, ?_, ?_, ?_, ?_, ?_, ?_, ?_, trivial⟩
    all_goals
      intro L x w9 hS hl hp K9 hK9
      have hs : (L 6 = false ∧ w9 = w.drew) ∨ (L 6 = true ∧ HeS G 114 (psR mt c0 r0 0 0 (.slice none 0 0) true false) w9 g M b σ1 ∧ Keep G w w9) := hS
      clear hS
      replace hK9 := hK9.out
      simp only [actMix, pickV, List.tail_cons, List.headD_cons, Act.put, List.setIfInBounds_toArray, List.set_cons_zero, List.set_cons_succ] at hK9 ⊢
    · go_simp
      with_reducible refine hK9 _ ?_
      have e6 : setL L 0 6 = L 6 := by simp [setL]
      rcases hs with ⟨h, h2⟩ | ⟨h, h2⟩
      · exact .inl ⟨e6.trans h, h2⟩
      · exact .inr ⟨e6.trans h, h2⟩
    · go_simp
      with_reducible refine hK9 _ ?_
      have e6 : setL L 1 6 = L 6 := by simp [setL]
      rcases hs with ⟨h, h2⟩ | ⟨h, h2⟩
      · exact .inl ⟨e6.trans h, h2⟩
      · exact .inr ⟨e6.trans h, h2⟩
    · go_simp
      with_reducible refine hK9 _ ?_
      have e6 : setL L 2 6 = L 6 := by simp [setL]
      rcases hs with ⟨h, h2⟩ | ⟨h, h2⟩
      · exact .inl ⟨e6.trans h, h2⟩
      · exact .inr ⟨e6.trans h, h2⟩
    · go_simp
      with_reducible refine hK9 _ ?_
      have e6 : setL L 3 6 = L 6 := by simp [setL]
      rcases hs with ⟨h, h2⟩ | ⟨h, h2⟩
      · exact .inl ⟨e6.trans h, h2⟩
      · exact .inr ⟨e6.trans h, h2⟩
    · go_simp
      with_reducible refine hK9 _ ?_
      have e6 : setL L 4 6 = L 6 := by simp [setL]
      rcases hs with ⟨h, h2⟩ | ⟨h, h2⟩
      · exact .inl ⟨e6.trans h, h2⟩
      · exact .inr ⟨e6.trans h, h2⟩
    · go_simp
      with_reducible refine hK9 _ ?_
      have e6 : setL L 5 6 = L 6 := by simp [setL]
      rcases hs with ⟨h, h2⟩ | ⟨h, h2⟩
      · exact .inl ⟨e6.trans h, h2⟩
      · exact .inr ⟨e6.trans h, h2⟩
    · go_simp
      obtain ⟨_, rfl⟩ : L 6 = false ∧ w9 = w.drew := by
        rcases hs with h | ⟨h, _⟩
        · exact h
        · rw [h] at hl; cases hl
      with_reducible refine (HF.out _ HDR.out HU.out (fun w' hk => HM.out w' (KDR.out.trans hk))).mono ?_
      rintro e9 w8 ⟨rfl, hd8, hk8⟩
      with_reducible refine hK9 _ ?_
      exact .inr ⟨by simp [setL], hd8, KDR.out.trans hk8⟩
    · go_simp
      with_reducible refine hK9 _ ?_
      have e6 : setL L 7 6 = L 6 := by simp [setL]
      rcases hs with ⟨h, h2⟩ | ⟨h, h2⟩
      · exact .inl ⟨e6.trans h, h2⟩
      · exact .inr ⟨e6.trans h, h2⟩
    · go_simp
      with_reducible refine hK9 _ ?_
      have e6 : setL L 8 6 = L 6 := by simp [setL]
      rcases hs with ⟨h, h2⟩ | ⟨h, h2⟩
      · exact .inl ⟨e6.trans h, h2⟩
      · exact .inr ⟨e6.trans h, h2⟩
    · go_simp
      with_reducible refine hK9 _ ?_
      have e6 : setL L 9 6 = L 6 := by simp [setL]
      rcases hs with ⟨h, h2⟩ | ⟨h, h2⟩
      · exact .inl ⟨e6.trans h, h2⟩
      · exact .inr ⟨e6.trans h, h2⟩
    · go_simp
      with_reducible refine hK9 _ ?_
      have e6 : setL L 10 6 = L 6 := by simp [setL]
      rcases hs with ⟨h, h2⟩ | ⟨h, h2⟩
      · exact .inl ⟨e6.trans h, h2⟩
      · exact .inr ⟨e6.trans h, h2⟩
    · go_simp
      with_reducible refine hK9 _ ?_
      have e6 : setL L 11 6 = L 6 := by simp [setL]
      rcases hs with ⟨h, h2⟩ | ⟨h, h2⟩
      · exact .inl ⟨e6.trans h, h2⟩
      · exact .inr ⟨e6.trans h, h2⟩
  intro L x w1 hS hL
  obtain ⟨hd1, hk1⟩ : HeS G 114 (psR mt c0 r0 0 0 (.slice none 0 0) true false) w1 g M b σ1 ∧ Keep G w w1 := by
    have hs : (L 6 = false ∧ w1 = w.drew) ∨ (L 6 = true ∧ HeS G 114 (psR mt c0 r0 0 0 (.slice none 0 0) true false) w1 g M b σ1 ∧ Keep G w w1) := hS
    rcases hs with ⟨h, _⟩ | ⟨_, h⟩
    · rw [hL 6 (by decide)] at h; cases h
    · exact h
  clear hS hL
  simp only [actMix, pickV, List.tail_cons, List.headD_cons, Act.put, List.setIfInBounds_toArray, List.set_cons_zero, List.set_cons_succ, List.replicate_succ, List.replicate_zero, List.drop_succ_cons, List.drop_zero, List.take_succ_cons, List.take_zero]
  have D1 := Lib.hid hd1
  have K1 := Lib.hid hk1
  have M1 := Lib.hid (HM.out _ K1.out)
  have Y1 := Lib.hid (HY.out _ K1.out)
  clear hd1 hk1 HF HDR KDR HU HM HY HB0 HIB
  go_wp2_with fail
  with_reducible refine (HBG.out w1 D1.out).mono ?_
  rintro e w' ⟨rfl, rfl⟩
  go_wp2_with fail
  with_reducible refine (HFI.out w1 D1.out).mono ?_
  rintro e w' ⟨rfl, rfl⟩
  go_wp2_with fail
  with_reducible refine (HPR.out w1 M1.out Y1.out).mono ?_
  rintro e w2 ⟨rfl, hb2⟩
  have D2 := Lib.hid (D1.out.below hb2)
  have K2 := Lib.hid (K1.out.trans (.of_below hb2))
  have f12 := D2.out.free 12
  have f13 := D2.out.free 13
  have k12 := D2.out.cellR 0
  have k13 := D2.out.cellR 1
  simp only [psR, List.tail_cons, List.getElem?_cons_zero, List.getElem?_cons_succ, Nat.reduceAdd] at k12 k13
  have HR : Hid (HeS G 114 (psR mt cd rs 0 0 (.slice none 0 0) true false) ((w2.setCell ⟨g, 12, none⟩ (.int .i64 cd)).setCell ⟨g, 13, none⟩ (.string (bs rs))) g M b σ1) :=
    (D2.out.setR 0 (.int .i64 cd)).setR 1 (.string (bs rs))
  have KK : ∀ (v : World) (i : Nat) (u : Value), Keep G v (v.setCell ⟨g, i, none⟩ u) := fun v i u => Keep.setCell v (p := ⟨g, i, none⟩) D2.out.gG u
  have HK : Hid (Keep G w ((w2.setCell ⟨g, 12, none⟩ (.int .i64 cd)).setCell ⟨g, 13, none⟩ (.string (bs rs)))) := (K2.out.trans (KK _ _ _)).trans (KK _ _ _)
  clear hb2 D1 K1 M1 Y1 D2 K2 KK HFI HPR HBG HD
  go_wp2_with fail
  go_ret2
  exact ⟨rfl, HR.out, HK.out⟩
set_option maxRecDepth 100000 in
set_option maxHeartbeats 4000000 in
theorem fhead96b (G : Nat → Prop) (g : Nat) (M : HdL) (b : Int) (σ σ1 : HdS) (mt : List UInt8) (c0 : Int) (r0 : List UInt8) (l : List UInt8) (hfd : Found l) (hbd : σ.wt + 4 * l.length ≤ 1000000000) (h1 : hRun M σ (l.take (nlAt l)) = σ1) (hb0 : σ.begun = true) (hf1 : σ1.fin = false) (he : σ1.errOf = 0)
    (w : World) (h : HeS G 114 (psR mt c0 r0 0 0 (.slice none 0 0) true false) w g M b σ) (hu : Up G w) (hM : ∀ w', Keep G w w' → MaxL w') (hY : ∀ w', Keep G w w' → Syn w') :
    Calls Tryz.prog 96 #[.pointer (some ⟨g, 0, none⟩), .string (bs l)] w fun x w' => x = .returned (.tuple #[.string (bs (l.drop (nlAt l))), .int .i64 0]) ∧ HeS G 114 (psR mt c0 r0 0 0 (.slice none 0 0) true false) w' g M b σ1 ∧ Keep G w w' := by
  have hlz := bs_size l
  have HIB := Lib.hid (fun W => calls_flop (Tryz.strings_IndexByte (bs l) 10 W))
  obtain ⟨k, hi, hnv, hkl⟩ := hfd
  obtain ⟨n, hn⟩ : ∃ n, n = nlAt l := ⟨_, rfl⟩
  rw [← hn] at h1 hnv ⊢
  have HF := Lib.hid (fun W hw hu hM => hfeed10 G 114 (psR mt c0 r0 0 0 (.slice none 0 0) true false) g M b σ (l.take n) (by rw [List.length_take]; omega) W hw hu hM)
  unfold HFeedTo at HF
  rw [h1] at HF
  obtain ⟨z, hz⟩ : ∃ z, z = bs (if σ1.errOf = 0 then hLeft M σ (l.take n) else []) := ⟨_, rfl⟩
  rw [← hz, he] at HF
  have HD := Lib.hid h
  have HM := Lib.hid hM
  have HY := Lib.hid hY
  obtain ⟨s, hs⟩ : ∃ s, s = bs l := ⟨_, rfl⟩
  have x0 : s.extract 0 n = bs (l.take n) := by rw [hs]; exact ext_bs0 l n
  have x1 : s.extract n s.size = bs (l.drop n) := by rw [hs]; exact ext_bs1 l n
  rw [← hs] at HIB hlz ⊢
  rw [show s.data.toList = l by rw [hs, bs_list], show (10 : Int).toNat.toUInt8 = 10 from rfl] at HIB
  obtain ⟨y0, hy0⟩ : ∃ y0, y0 = bs (l.take n) := ⟨_, rfl⟩
  obtain ⟨y1, hy1⟩ : ∃ y1, y1 = bs (l.drop n) := ⟨_, rfl⟩
  rw [← hy0] at x0 HF
  rw [← hy1] at x1 ⊢
  have hn1 : n ≤ s.size := by omega
  have hn2 : s.size ≤ 1000000000 := by omega
  have HB0 := Lib.hid (hbegunS G 114 (psR mt c0 r0 0 0 (.slice none 0 0) true false) g M b σ w h)
  rw [hb0] at HB0
  have HDN := Lib.hid (fun W hw => hdoneS G 114 (psR mt c0 r0 0 0 (.slice none 0 0) true false) g M b σ1 W hw)
  rw [hf1] at HDN
  have DN : ∀ k, Below w.heap.size w (w.drewN k) := fun k => ⟨rfl, rfl, rfl, Nat.le_refl _, fun _ _ => rfl⟩
  have HDR : Hid (HeS G 114 (psR mt c0 r0 0 0 (.slice none 0 0) true false) w.drew g M b σ) := h.below (DN 1)
  have KDR : Hid (Keep G w w.drew) := Keep.drew w
  have HU : Hid (Up G w.drew) := hu.keep KDR
  clear h hu hM hY hn h1 hz hs hy0 hy1 DN hbd hb0 he hf1
  rw [hi] at HIB
  have hkn : (k : Int) + 1 = (n : Int) := by omega
  have hk2 : ((n : Int) == 0) = false := beq_eq_false_iff_ne.2 (by omega)
  have hk3 : (n : Int) ≤ s.size := by omega
  have hk4 : (n : Int) ≠ 0 := by omega
  have hk5 : k ≤ 1000000000 := by omega
  clear hnv hkl hlz hi
  go_enter Tryz.func96, Tryz.ntmps96
  go_wp2_with fail
  refine (HIB.out w).mono ?_
  rintro e w' ⟨rfl, rfl⟩
  go_wp2_with fail
  with_reducible refine HB0.out.mono ?_
  rintro e w' ⟨rfl, rfl⟩
  go_upto_region 1 with fail
  refine region_mixt 12 [some (.pointer (some ⟨g, 0, none⟩)), some (.pointer (some ⟨g, 0, none⟩)), some (.pointer (some ⟨g, 1, none⟩)), some (.string s), some (.int .i64 (n : Int)), some (.string y0), some (.tuple #[.string z, .int .i64 0]), some (.tuple #[.string z, .int .i64 0]), some (.string z), some (.int .i64 0), some (.string z), some (.int .i64 0)]
    [[false, false, false, false, false, false, false, false, false, false, false, false], [true, false, false, false, false, false, false, false, false, false, false, false], [false, true, false, false, false, false, false, false, false, false, false, false], [false, false, false, false, false, false, false, false, false, false, false, false], [false, false, false, false, false, false, false, false, false, false, false, false], [false, false, false, true, true, false, false, false, false, false, false, false], [false, false, true, false, false, true, false, false, false, false, false, false], [false, false, false, false, false, false, true, false, false, false, false, false], [false, false, false, false, false, false, false, true, false, false, false, false], [false, false, false, false, false, false, false, true, false, false, false, false], [true, true, true, true, true, true, true, true, true, false, false, false], [true, true, true, true, true, true, true, true, true, true, true, false]]
    (fun L x w1 => (L 6 = false ∧ w1 = w.drew) ∨ (L 6 = true ∧ HeS G 114 (psR mt c0 r0 0 0 (.slice none 0 0) true false) w1 g M b σ1 ∧ Keep G w w1))
    (by kernel_rfl) (by kernel_rfl) (by kernel_rfl) (by kernel_rfl) (by kernel_rfl) (by decide) ?_ ?_ ?_
  · intro _
    exact .inl ⟨rfl, rfl⟩
  · simp only [List.take_succ_cons, List.take_zero]
    refine ⟨?_, ?_, ?_, ?_, ?_, ?_, ?_, ?_, ?_, ?_, ?_, ?_, trivial⟩
    all_goals
      intro L x w9 hS hl hp K9 hK9
      have hs : (L 6 = false ∧ w9 = w.drew) ∨ (L 6 = true ∧ HeS G 114 (psR mt c0 r0 0 0 (.slice none 0 0) true false) w9 g M b σ1 ∧ Keep G w w9) := hS
      clear hS
      replace hK9 := hK9.out
      simp only [actMix, pickV, List.tail_cons, List.headD_cons, Act.put, List.setIfInBounds_toArray, List.set_cons_zero, List.set_cons_succ] at hK9 ⊢
    · go_simp
      with_reducible refine hK9 _ ?_
      have e6 : setL L 0 6 = L 6 := by simp [setL]
      rcases hs with ⟨h, h2⟩ | ⟨h, h2⟩
      · exact .inl ⟨e6.trans h, h2⟩
      · exact .inr ⟨e6.trans h, h2⟩
    · go_simp
      with_reducible refine hK9 _ ?_
      have e6 : setL L 1 6 = L 6 := by simp [setL]
      rcases hs with ⟨h, h2⟩ | ⟨h, h2⟩
      · exact .inl ⟨e6.trans h, h2⟩
      · exact .inr ⟨e6.trans h, h2⟩
    · go_simp
      with_reducible refine hK9 _ ?_
      have e6 : setL L 2 6 = L 6 := by simp [setL]
      rcases hs with ⟨h, h2⟩ | ⟨h, h2⟩
      · exact .inl ⟨e6.trans h, h2⟩
      · exact .inr ⟨e6.trans h, h2⟩
    · go_simp
      with_reducible refine hK9 _ ?_
      have e6 : setL L 3 6 = L 6 := by simp [setL]
      rcases hs with ⟨h, h2⟩ | ⟨h, h2⟩
      · exact .inl ⟨e6.trans h, h2⟩
      · exact .inr ⟨e6.trans h, h2⟩
    · go_simp
      with_reducible refine hK9 _ ?_
      have e6 : setL L 4 6 = L 6 := by simp [setL]
      rcases hs with ⟨h, h2⟩ | ⟨h, h2⟩
      · exact .inl ⟨e6.trans h, h2⟩
      · exact .inr ⟨e6.trans h, h2⟩
    · go_simp
      with_reducible refine hK9 _ ?_
      have e6 : setL L 5 6 = L 6 := by simp [setL]
      rcases hs with ⟨h, h2⟩ | ⟨h, h2⟩
      · exact .inl ⟨e6.trans h, h2⟩
      · exact .inr ⟨e6.trans h, h2⟩
    · go_simp
      obtain ⟨_, rfl⟩ : L 6 = false ∧ w9 = w.drew := by
        rcases hs with h | ⟨h, _⟩
        · exact h
        · rw [h] at hl; cases hl
      with_reducible refine (HF.out _ HDR.out HU.out (fun w' hk => HM.out w' (KDR.out.trans hk))).mono ?_
      rintro e9 w8 ⟨rfl, hd8, hk8⟩
      with_reducible refine hK9 _ ?_
      exact .inr ⟨by simp [setL], hd8, KDR.out.trans hk8⟩
    · go_simp
      with_reducible refine hK9 _ ?_
      have e6 : setL L 7 6 = L 6 := by simp [setL]
      rcases hs with ⟨h, h2⟩ | ⟨h, h2⟩
      · exact .inl ⟨e6.trans h, h2⟩
      · exact .inr ⟨e6.trans h, h2⟩
    · go_simp
      with_reducible refine hK9 _ ?_
      have e6 : setL L 8 6 = L 6 := by simp [setL]
      rcases hs with ⟨h, h2⟩ | ⟨h, h2⟩
      · exact .inl ⟨e6.trans h, h2⟩
      · exact .inr ⟨e6.trans h, h2⟩
    · go_simp
      with_reducible refine hK9 _ ?_
      have e6 : setL L 9 6 = L 6 := by simp [setL]
      rcases hs with ⟨h, h2⟩ | ⟨h, h2⟩
      · exact .inl ⟨e6.trans h, h2⟩
      · exact .inr ⟨e6.trans h, h2⟩
    · go_simp
      with_reducible refine hK9 _ ?_
      have e6 : setL L 10 6 = L 6 := by simp [setL]
      rcases hs with ⟨h, h2⟩ | ⟨h, h2⟩
      · exact .inl ⟨e6.trans h, h2⟩
      · exact .inr ⟨e6.trans h, h2⟩
    · go_simp
      with_reducible refine hK9 _ ?_
      have e6 : setL L 11 6 = L 6 := by simp [setL]
      rcases hs with ⟨h, h2⟩ | ⟨h, h2⟩
      · exact .inl ⟨e6.trans h, h2⟩
      · exact .inr ⟨e6.trans h, h2⟩
  intro L x w1 hS hL
  obtain ⟨hd1, hk1⟩ : HeS G 114 (psR mt c0 r0 0 0 (.slice none 0 0) true false) w1 g M b σ1 ∧ Keep G w w1 := by
    have hs : (L 6 = false ∧ w1 = w.drew) ∨ (L 6 = true ∧ HeS G 114 (psR mt c0 r0 0 0 (.slice none 0 0) true false) w1 g M b σ1 ∧ Keep G w w1) := hS
    rcases hs with ⟨h, _⟩ | ⟨_, h⟩
    · rw [hL 6 (by decide)] at h; cases h
    · exact h
  clear hS hL
  simp only [actMix, pickV, List.tail_cons, List.headD_cons, Act.put, List.setIfInBounds_toArray, List.set_cons_zero, List.set_cons_succ, List.replicate_succ, List.replicate_zero, List.drop_succ_cons, List.drop_zero, List.take_succ_cons, List.take_zero]
  have D1 := Lib.hid hd1
  have K1 := Lib.hid hk1
  have M1 := Lib.hid (HM.out _ K1.out)
  have Y1 := Lib.hid (HY.out _ K1.out)
  clear hd1 hk1 HF HDR KDR HU HM HY HB0 HIB
  go_wp2_with fail
  with_reducible refine (HDN.out w1 D1.out).mono ?_
  rintro e w' ⟨rfl, rfl⟩
  go_wp2_with fail
  go_ret2
  exact ⟨rfl, D1.out, K1.out⟩
set_option maxRecDepth 100000 in
set_option maxHeartbeats 4000000 in
theorem fhead96c (G : Nat → Prop) (g : Nat) (M : HdL) (b : Int) (σ σ1 : HdS) (mt : List UInt8) (c0 : Int) (r0 : List UInt8) (l : List UInt8) (hfd : Found l) (hbd : σ.wt + 4 * l.length ≤ 1000000000) (h1 : hRun M σ (l.take (nlAt l)) = σ1) (hb0 : σ.begun = true) (hf1 : σ1.fin = true) (hne : ∀ e, σ1 ≠ .err e) (he : σ1.errOf = 0) (fs : List Fld) (hfs : σ1.fldsOf = fs) (hfl : fs.length ≤ 1000000) (hok : ∀ f ∈ fs, FldOk f) (k0 n0 : Int) (hF : FramesR mt c0 b fs k0 n0)
    (w : World) (h : HeS G 114 (psR mt c0 r0 0 0 (.slice none 0 0) true false) w g M b σ) (hu : Up G w) (hM : ∀ w', Keep G w w' → MaxL w') (hY : ∀ w', Keep G w w' → Syn w') :
    Calls Tryz.prog 96 #[.pointer (some ⟨g, 0, none⟩), .string (bs l)] w fun x w' => x = .returned (.tuple #[.string (bs (l.drop (nlAt l))), .int .i64 0]) ∧ HeS G 114 (psR mt c0 r0 k0 n0 (.slice none 0 0) true false) w' g M b σ1 ∧ Keep G w w' := by
  have hlz := bs_size l
  have HIB := Lib.hid (fun W => calls_flop (Tryz.strings_IndexByte (bs l) 10 W))
  obtain ⟨k, hi, hnv, hkl⟩ := hfd
  obtain ⟨n, hn⟩ : ∃ n, n = nlAt l := ⟨_, rfl⟩
  rw [← hn] at h1 hnv ⊢
  have HF := Lib.hid (fun W hw hu hM => hfeed10 G 114 (psR mt c0 r0 0 0 (.slice none 0 0) true false) g M b σ (l.take n) (by rw [List.length_take]; omega) W hw hu hM)
  unfold HFeedTo at HF
  rw [h1] at HF
  obtain ⟨z, hz⟩ : ∃ z, z = bs (if σ1.errOf = 0 then hLeft M σ (l.take n) else []) := ⟨_, rfl⟩
  rw [← hz, he] at HF
  have HD := Lib.hid h
  have HM := Lib.hid hM
  have HY := Lib.hid hY
  obtain ⟨s, hs⟩ : ∃ s, s = bs l := ⟨_, rfl⟩
  have x0 : s.extract 0 n = bs (l.take n) := by rw [hs]; exact ext_bs0 l n
  have x1 : s.extract n s.size = bs (l.drop n) := by rw [hs]; exact ext_bs1 l n
  rw [← hs] at HIB hlz ⊢
  rw [show s.data.toList = l by rw [hs, bs_list], show (10 : Int).toNat.toUInt8 = 10 from rfl] at HIB
  obtain ⟨y0, hy0⟩ : ∃ y0, y0 = bs (l.take n) := ⟨_, rfl⟩
  obtain ⟨y1, hy1⟩ : ∃ y1, y1 = bs (l.drop n) := ⟨_, rfl⟩
  rw [← hy0] at x0 HF
  rw [← hy1] at x1 ⊢
  have hn1 : n ≤ s.size := by omega
  have hn2 : s.size ≤ 1000000000 := by omega
  have HB0 := Lib.hid (hbegunS G 114 (psR mt c0 r0 0 0 (.slice none 0 0) true false) g M b σ w h)
  rw [hb0] at HB0
  have HDN := Lib.hid (fun W hw => hdoneS G 114 (psR mt c0 r0 0 0 (.slice none 0 0) true false) g M b σ1 W hw)
  rw [hf1] at HDN
  have HBB := Lib.hid (fun W hS hw => begin118 G g M b σ1 hne mt r0 c0 fs hfs hfl hok k0 n0 hF W hS hw)
  have DN : ∀ k, Below w.heap.size w (w.drewN k) := fun k => ⟨rfl, rfl, rfl, Nat.le_refl _, fun _ _ => rfl⟩
  have HDR : Hid (HeS G 114 (psR mt c0 r0 0 0 (.slice none 0 0) true false) w.drew g M b σ) := h.below (DN 1)
  have KDR : Hid (Keep G w w.drew) := Keep.drew w
  have HU : Hid (Up G w.drew) := hu.keep KDR
  clear h hu hM hY hn h1 hz hs hy0 hy1 DN hbd hb0 he hf1 hne hfs hfl hok hF
  rw [hi] at HIB
  have hkn : (k : Int) + 1 = (n : Int) := by omega
  have hk2 : ((n : Int) == 0) = false := beq_eq_false_iff_ne.2 (by omega)
  have hk3 : (n : Int) ≤ s.size := by omega
  have hk4 : (n : Int) ≠ 0 := by omega
  have hk5 : k ≤ 1000000000 := by omega
  clear hnv hkl hlz hi
  go_enter Tryz.func96, Tryz.ntmps96
  go_wp2_with fail
  refine (HIB.out w).mono ?_
  rintro e w' ⟨rfl, rfl⟩
  go_wp2_with fail
  with_reducible refine HB0.out.mono ?_
  rintro e w' ⟨rfl, rfl⟩
  go_upto_region 1 with fail
  refine region_mixt 12 [some (.pointer (some ⟨g, 0, none⟩)), some (.pointer (some ⟨g, 0, none⟩)), some (.pointer (some ⟨g, 1, none⟩)), some (.string s), some (.int .i64 (n : Int)), some (.string y0), some (.tuple #[.string z, .int .i64 0]), some (.tuple #[.string z, .int .i64 0]), some (.string z), some (.int .i64 0), some (.string z), some (.int .i64 0)]
    [[false, false, false, false, false, false, false, false, false, false, false, false], [true, false, false, false, false, false, false, false, false, false, false, false], [false, true, false, false, false, false, false, false, false, false, false, false], [false, false, false, false, false, false, false, false, false, false, false, false], [false, false, false, false, false, false, false, false, false, false, false, false], [false, false, false, true, true, false, false, false, false, false, false, false], [false, false, true, false, false, true, false, false, false, false, false, false], [false, false, false, false, false, false, true, false, false, false, false, false], [false, false, false, false, false, false, false, true, false, false, false, false], [false, false, false, false, false, false, false, true, false, false, false, false], [true, true, true, true, true, true, true, true, true, false, false, false], [true, true, true, true, true, true, true, true, true, true, true, false]]
    (fun L x w1 => (L 6 = false ∧ w1 = w.drew) ∨ (L 6 = true ∧ HeS G 114 (psR mt c0 r0 0 0 (.slice none 0 0) true false) w1 g M b σ1 ∧ Keep G w w1))
    (by kernel_rfl) (by kernel_rfl) (by kernel_rfl) (by kernel_rfl) (by kernel_rfl) (by decide) ?_ ?_ ?_
  · intro _
    exact .inl ⟨rfl, rfl⟩
  · simp only [List.take_succ_cons, List.take_zero]
    refine ⟨?_, ?_, ?_, ?_, ?_, ?_, ?_, ?_, ?_, ?_, ?_, ?_, trivial⟩
    all_goals
      intro L x w9 hS hl hp K9 hK9
      have hs : (L 6 = false ∧ w9 = w.drew) ∨ (L 6 = true ∧ HeS G 114 (psR mt c0 r0 0 0 (.slice none 0 0) true false) w9 g M b σ1 ∧ Keep G w w9) := hS
      clear hS
      replace hK9 := hK9.out
      simp only [actMix, pickV, List.tail_cons, List.headD_cons, Act.put, List.setIfInBounds_toArray, List.set_cons_zero, List.set_cons_succ] at hK9 ⊢
    · go_simp
      with_reducible refine hK9 _ ?_
      have e6 : setL L 0 6 = L 6 := by simp [setL]
      rcases hs with ⟨h, h2⟩ | ⟨h, h2⟩
      · exact .inl ⟨e6.trans h, h2⟩
      · exact .inr ⟨e6.trans h, h2⟩
    · go_simp
      with_reducible refine hK9 _ ?_
      have e6 : setL L 1 6 = L 6 := by simp [setL]
      rcases hs with ⟨h, h2⟩ | ⟨h, h2⟩
      · exact .inl ⟨e6.trans h, h2⟩
      · exact .inr ⟨e6.trans h, h2⟩
    · go_simp
      with_reducible refine hK9 _ ?_
      have e6 : setL L 2 6 = L 6 := by simp [setL]
      rcases hs with ⟨h, h2⟩ | ⟨h, h2⟩
      · exact .inl ⟨e6.trans h, h2⟩
      · exact .inr ⟨e6.trans h, h2⟩
    · go_simp
      with_reducible refine hK9 _ ?_
      have e6 : setL L 3 6 = L 6 := by simp [setL]
      rcases hs with ⟨h, h2⟩ | ⟨h, h2⟩
      · exact .inl ⟨e6.trans h, h2⟩
      · exact .inr ⟨e6.trans h, h2⟩
    · go_simp
      with_reducible refine hK9 _ ?_
      have e6 : setL L 4 6 = L 6 := by simp [setL]
      rcases hs with ⟨h, h2⟩ | ⟨h, h2⟩
      · exact .inl ⟨e6.trans h, h2⟩
      · exact .inr ⟨e6.trans h, h2⟩
    · go_simp
      with_reducible refine hK9 _ ?_
      have e6 : setL L 5 6 = L 6 := by simp [setL]
      rcases hs with ⟨h, h2⟩ | ⟨h, h2⟩
      · exact .inl ⟨e6.trans h, h2⟩
      · exact .inr ⟨e6.trans h, h2⟩
    · go_simp
      obtain ⟨_, rfl⟩ : L 6 = false ∧ w9 = w.drew := by
        rcases hs with h | ⟨h, _⟩
        · exact h
        · rw [h] at hl; cases hl
      with_reducible refine (HF.out _ HDR.out HU.out (fun w' hk => HM.out w' (KDR.out.trans hk))).mono ?_
      rintro e9 w8 ⟨rfl, hd8, hk8⟩
      with_reducible refine hK9 _ ?_
      exact .inr ⟨by simp [setL], hd8, KDR.out.trans hk8⟩
    · go_simp
      with_reducible refine hK9 _ ?_
      have e6 : setL L 7 6 = L 6 := by simp [setL]
      rcases hs with ⟨h, h2⟩ | ⟨h, h2⟩
      · exact .inl ⟨e6.trans h, h2⟩
      · exact .inr ⟨e6.trans h, h2⟩
    · go_simp
      with_reducible refine hK9 _ ?_
      have e6 : setL L 8 6 = L 6 := by simp [setL]
      rcases hs with ⟨h, h2⟩ | ⟨h, h2⟩
      · exact .inl ⟨e6.trans h, h2⟩
      · exact .inr ⟨e6.trans h, h2⟩
    · go_simp
      with_reducible refine hK9 _ ?_
      have e6 : setL L 9 6 = L 6 := by simp [setL]
      rcases hs with ⟨h, h2⟩ | ⟨h, h2⟩
      · exact .inl ⟨e6.trans h, h2⟩
      · exact .inr ⟨e6.trans h, h2⟩
    · go_simp
      with_reducible refine hK9 _ ?_
      have e6 : setL L 10 6 = L 6 := by simp [setL]
      rcases hs with ⟨h, h2⟩ | ⟨h, h2⟩
      · exact .inl ⟨e6.trans h, h2⟩
      · exact .inr ⟨e6.trans h, h2⟩
    · go_simp
      with_reducible refine hK9 _ ?_
      have e6 : setL L 11 6 = L 6 := by simp [setL]
      rcases hs with ⟨h, h2⟩ | ⟨h, h2⟩
      · exact .inl ⟨e6.trans h, h2⟩
      · exact .inr ⟨e6.trans h, h2⟩
  intro L x w1 hS hL
  obtain ⟨hd1, hk1⟩ : HeS G 114 (psR mt c0 r0 0 0 (.slice none 0 0) true false) w1 g M b σ1 ∧ Keep G w w1 := by
    have hs : (L 6 = false ∧ w1 = w.drew) ∨ (L 6 = true ∧ HeS G 114 (psR mt c0 r0 0 0 (.slice none 0 0) true false) w1 g M b σ1 ∧ Keep G w w1) := hS
    rcases hs with ⟨h, _⟩ | ⟨_, h⟩
    · rw [hL 6 (by decide)] at h; cases h
    · exact h
  clear hS hL
  simp only [actMix, pickV, List.tail_cons, List.headD_cons, Act.put, List.setIfInBounds_toArray, List.set_cons_zero, List.set_cons_succ, List.replicate_succ, List.replicate_zero, List.drop_succ_cons, List.drop_zero, List.take_succ_cons, List.take_zero]
  have D1 := Lib.hid hd1
  have K1 := Lib.hid hk1
  have M1 := Lib.hid (HM.out _ K1.out)
  have Y1 := Lib.hid (HY.out _ K1.out)
  clear hd1 hk1 HF HDR KDR HU HM HY HB0 HIB
  go_wp2_with fail
  with_reducible refine (HDN.out w1 D1.out).mono ?_
  rintro e w' ⟨rfl, rfl⟩
  go_wp2_with fail
  with_reducible refine (HBB.out w1 Y1.out D1.out).mono ?_
  rintro e w2 ⟨rfl, hd2, hk2⟩
  have D2 := Lib.hid hd2
  have K2 := Lib.hid (K1.out.trans hk2)
  clear hd2 hk2 D1 K1 M1 Y1 HBB HDN HD
  go_wp2_with fail
  go_ret2
  exact ⟨rfl, D2.out, K2.out⟩
end Go.Proofs.YtbbphklhnngjmaaGreatDoor.R

/- response: a parser in memory; complete, feedBody, step (written by genrsd.py). -/
namespace Go.Proofs.YtbbphklhnngjmaaGreatDoor.R
open Go.RowKit

set_option maxHeartbeats 2000000 in
theorem complete68 (G : Nat → Prop) (g : Nat) (M : HdL) (b : Int) (σ : HdS) (mt : List UInt8) (c : Int) (r : List UInt8) (k n : Int) (hk3 : (k == 3) = false) (ba : Option Addr) (j bc : Nat) (q : Bool) (hq : q = (σ.fin && ((j : Int) == n))) (w : World) (h : HeS G 114 (psR mt c r k n (.slice ba j bc) true false) w g M b σ) :
    Calls Tryz.prog 68 #[.pointer (some ⟨g, 0, none⟩)] w fun x w' => x = .returned (.bool q) ∧ ∃ n, w' = w.drewN n := by
  have c19 := h.cellR 7
  have c18 := h.cellR 6
  have c17 := h.cellR 5
  have c16 := h.cellR 4
  simp only [psR, List.tail_cons, List.getElem?_cons_zero, List.getElem?_cons_succ, Nat.reduceAdd] at c19 c18 c17 c16
  have HX := Lib.hid (hdoneS G 114 (psR mt c r k n (.slice ba j bc) true false) g M b σ w h)
  clear h
  cases hf : σ.fin
  · rw [hf] at HX hq
    obtain rfl : q = false := by rw [hq]; rfl
    clear hf hq
    go_enter Tryz.func68, Tryz.ntmps68
    go_wp2_with fail
    with_reducible refine HX.out.mono ?_
    rintro e w' ⟨rfl, rfl⟩
    go_wp2_with fail
    go_ret
    exact ⟨rfl, 0, rfl⟩
  · rw [hf] at HX hq
    have hq2 : ((j : Int) == n) = q := by rw [hq]; simp
    clear hf hq
    go_enter Tryz.func68, Tryz.ntmps68
    go_wp2_with fail
    with_reducible refine HX.out.mono ?_
    rintro e w' ⟨rfl, rfl⟩
    go_wp2_with fail
    cases q
    · go_quiet (fail)
      go_wp2_with fail
      go_ret
      exact ⟨rfl, _, rfl⟩
    · go_quiet (fail)
      go_wp2_with fail
      go_ret
      exact ⟨rfl, _, rfl⟩
/-- Behind the body's bytes. -/
def BodyTo (G : Nat → Prop) (g : Nat) (M : HdL) (b : Int) (σ : HdS) (mt : List UInt8) (c : Int) (r : List UInt8) (k : Int) (l : List UInt8) (w w' : World) : Prop :=
  ∃ ba bc, HeS G 114 (psR mt c r k (l.length : Int) (.slice ba l.length bc) true false) w' g M b σ ∧ w'.ownsRow w.heap.size 5 1 (.slice ba l.length bc) l.length (byteVals l) ∧ Keep (fun j => j = g) w w'
set_option maxRecDepth 100000 in
set_option maxHeartbeats 4000000 in
theorem fbody97 (G : Nat → Prop) (g : Nat) (M : HdL) (b : Int) (σ : HdS) (mt : List UInt8) (c : Int) (r : List UInt8) (k : Int) (hk3 : (k == 3) = false) (l p : List UInt8) (hll : (l ++ p).length ≤ 1000000000) (w : World) (h : HeS G 114 (psR mt c r k (l.length : Int) (.slice none 0 0) true false) w g M b σ) :
    Calls Tryz.prog 97 #[.pointer (some ⟨g, 0, none⟩), .string (bs (l ++ p))] w fun x w' => x = .returned (.tuple #[.string (bs p), .int .i64 0]) ∧ BodyTo G g M b σ mt c r k l w w' := by
  obtain ⟨i0, hi, hz0, hz1, hz2⟩ := info_parts infoU8
  have c19 := h.cellR 7
  have c18 := h.cellR 6
  have c17 := h.cellR 5
  have c16 := h.cellR 4
  simp only [psR, List.tail_cons, List.getElem?_cons_zero, List.getElem?_cons_succ, Nat.reduceAdd] at c19 c18 c17 c16
  have hlt := h.lt
  have HD := Lib.hid h
  have HGL := Lib.hid hlt
  obtain ⟨s, hs⟩ : ∃ s, s = bs (l ++ p) := ⟨_, rfl⟩
  have hsz : s.size = l.length + p.length := by rw [hs, bs_size, List.length_append]
  obtain ⟨n, hn⟩ : ∃ n, n = l.length := ⟨_, rfl⟩
  have HL := Lib.hid hn.symm
  have e0 : s.extract 0 n = bs l := by
    rw [hs, hn, ext_bs0]
    congr 1
    exact List.take_left' rfl
  have e9 : s.extract n s.size = bs p := by
    rw [hs, hn, ext_bs1]
    congr 1
    exact List.drop_left' rfl
  rw [List.length_append] at hll
  rw [← hn] at c17 hsz hll
  obtain ⟨y0, hy0⟩ : ∃ y0, y0 = bs l := ⟨_, rfl⟩
  obtain ⟨y1, hy1⟩ : ∃ y1, y1 = bs p := ⟨_, rfl⟩
  rw [← hy0] at e0
  rw [← hy1] at e9 ⊢
  have HY0 := Lib.hid hy0
  have hyz : y0.size = n := by rw [hy0, bs_size, hn]
  have hn0 : n ≤ s.size := by omega
  have hn1 : (n : Int) ≤ s.size := by omega
  have hn9 : s.size ≤ 1000000000 := by omega
  have hmin : min (n : Int) (s.size : Int) = (n : Int) := by omega
  have hwr : IntKind.i64.wrap (n : Int) = (n : Int) := IntWalk.i64_in _ (by omega)
  have HYZ := Lib.hid hyz
  have HI := Lib.hid hi
  have HZ0 := Lib.hid hz0
  have HZ1 := Lib.hid hz1
  have HZ2 := Lib.hid hz2
  clear h hi hz0 hz1 hz2
  rw [← hs]
  clear hs hn hsz hll hy0 hy1 hyz
  go_enter Tryz.func97, Tryz.ntmps97
  go_upto_region 3 with fail
  refine region_mixt 13 [some (.pointer (some ⟨g, 0, none⟩)), some (.pointer (some ⟨g, 0, none⟩)), some (.pointer (some ⟨g, 17, none⟩)), some (.int .i64 (n : Int)), some (.pointer (some ⟨g, 0, none⟩)), some (.pointer (some ⟨g, 0, none⟩)), some (.pointer (some ⟨g, 18, none⟩)), some (.slice none 0 0), some (.int .i64 0), some (.int .i64 (n : Int)), some (.string s), some (.int .i64 (s.size : Int)), some (.int .i64 (n : Int))]
    [[false, false, false, false, false, false, false, false, false, false, false, false, false], [true, false, false, false, false, false, false, false, false, false, false, false, false], [false, true, false, false, false, false, false, false, false, false, false, false, false], [false, false, true, false, false, false, false, false, false, false, false, false, false], [false, false, false, false, false, false, false, false, false, false, false, false, false], [false, false, false, false, true, false, false, false, false, false, false, false, false], [false, false, false, false, false, true, false, false, false, false, false, false, false], [false, false, false, false, false, false, true, false, false, false, false, false, false], [false, false, false, false, false, false, false, true, false, false, false, false, false], [false, false, false, true, false, false, false, false, true, false, false, false, false], [false, false, false, false, false, false, false, false, false, false, false, false, false], [false, false, false, false, false, false, false, false, false, false, true, false, false], [false, false, false, false, false, false, false, false, false, true, false, true, false]]
    (fun L x w1 => Below w.heap.size w w1)
    (by kernel_rfl) (by kernel_rfl) (by kernel_rfl) (by kernel_rfl) (by kernel_rfl) (by decide) ?_ ?_ ?_
  · intro _
    exact ⟨rfl, rfl, rfl, Nat.le_refl _, fun _ _ => rfl⟩
  · simp only [List.take_succ_cons, List.take_zero]
    refine ⟨?_, ?_, ?_, ?_, ?_, ?_, ?_, ?_, ?_, ?_, ?_, ?_, ?_, trivial⟩
    all_goals
      intro L x w9 hS hl hp K9 hK9
      have hs : Below w.heap.size w w9 := hS
      have q18 : w9.cell? ⟨g, 18, none⟩ = some (.slice none 0 0) := by rw [(bcell hs).1 _ _ hlt]; exact c18
      have q17 : w9.cell? ⟨g, 17, none⟩ = some (.int .i64 (n : Int)) := by rw [(bcell hs).1 _ _ hlt]; exact c17
      clear hS hp hl
      replace hK9 := hK9.out
      simp only [actMix, pickV, List.tail_cons, List.headD_cons, Act.put, List.setIfInBounds_toArray, List.set_cons_zero, List.set_cons_succ] at hK9 ⊢
    all_goals
      go_simp
      with_reducible refine hK9 _ ?_
      exact hs
  intro L x w3 hS hL
  have hb3 : Below w.heap.size w w3 := hS
  clear hS hL
  simp only [actMix, pickV, List.tail_cons, List.headD_cons, Act.put, List.setIfInBounds_toArray, List.set_cons_zero, List.set_cons_succ, List.replicate_succ, List.replicate_zero, List.drop_succ_cons, List.drop_zero, List.take_succ_cons, List.take_zero]
  have D3 := Lib.hid (HD.out.below hb3)
  have B3 := Lib.hid hb3
  have hlt3 := D3.out.lt
  have d18 : w3.cell? ⟨g, 18, none⟩ = some (.slice none 0 0) := by rw [(bcell hb3).1 _ _ hlt]; exact c18
  have d16 : w3.cell? ⟨g, 16, none⟩ = some (.int .i64 k) := by rw [(bcell hb3).1 _ _ hlt]; exact c16
  clear hb3 c19 c18 c17 c16 hlt HD hmin
  go_upto_region 6 with fail
  refine region_mixt 9 [some (.pointer (some ⟨g, 0, none⟩)), some (.pointer (some ⟨g, 0, none⟩)), some (.pointer (some ⟨g, 0, none⟩)), some (.pointer (some ⟨g, 18, none⟩)), some (.slice none 0 0), some (.string s), some (.int .i64 (n : Int)), some (.string y0), none]
    [[false, false, false, false, false, false, false, false, false], [false, false, false, false, false, false, false, false, false], [false, true, false, false, false, false, false, false, false], [false, false, true, false, false, false, false, false, false], [false, false, false, true, false, false, false, false, false], [false, false, false, false, false, false, false, false, false], [false, false, false, false, false, false, false, false, false], [false, false, false, false, false, true, true, false, false], [false, false, false, false, true, false, false, true, false]]
    (fun L x w1 => Below w3.heap.size w3 w1 ∧ (L 8 = true → w1.ownsRow w.heap.size 5 1 (x 8) n (byteVals l)))
    (by kernel_rfl) (by kernel_rfl) (by kernel_rfl) (by kernel_rfl) (by kernel_rfl) (by decide) ?_ ?_ ?_
  · intro _
    exact ⟨⟨rfl, rfl, rfl, Nat.le_refl _, fun _ _ => rfl⟩, (fun h => nomatch h)⟩
  · simp only [List.take_succ_cons, List.take_zero]
    refine ⟨?_, ?_, ?_, ?_, ?_, ?_, ?_, ?_, ?_, trivial⟩
    all_goals
      intro L x w9 hS hl hp K9 hK9
      have hs : Below w3.heap.size w3 w9 := hS.1
      have h8 := hS.2
      have q18 : w9.cell? ⟨g, 18, none⟩ = some (.slice none 0 0) := by rw [(bcell hs).1 _ _ hlt3]; exact d18
      clear hS hp
      replace hK9 := hK9.out
      simp only [actMix, pickV, List.tail_cons, List.headD_cons, Act.put, List.setIfInBounds_toArray, List.set_cons_zero, List.set_cons_succ] at hK9 ⊢
    iterate 8
      · clear hl
        have H8 := Lib.hid h8
        clear h8
        go_simp
        with_reducible refine hK9 _ ?_
        exact ⟨hs, H8.out⟩
    · rw [if_pos (by rfl)]
      have HO : w9.ownsRow 0 5 1 (.slice none 0 0) 0 [] := World.ownsRow_nil w9 0 _ 1
      have hyz := HYZ.out
      refine wp_app_strP (Operand.tmp 49) (Operand.tmp 52) 101 9 rfl 5 i0 Tryz.underlying101 Tryz.underlying9 HI.out HZ0.out HZ1.out HZ2.out (.slice none 0 0) 0 [] rfl HO y0 rfl (by unfold maxLen; omega) (by omega) ?_
      intro v' w' ho hg ha
      have hb := below_grown_none hg
      refine hK9 _ _ ⟨hs.trans (hb.mono hs.size), fun _ => ?_⟩
      have e1 : w'.ownsRow w.heap.size 5 1 v' n (byteVals l) := by
        refine own_rebase ?_ (fun k hk => ?_)
        · rw [hyz, Nat.zero_add, List.nil_append, strCells_bytesP, HY0.out, bs_list] at ho
          exact ho
        · rcases ha with ha | ha
          · rw [ha] at hk; cases hk
          · rw [ha] at hk
            injection hk with hk
            have := B3.out.size
            have := hs.size
            omega
      simpa [updV] using e1
  intro L x w9 hS hL
  have hb9 : Below w3.heap.size w3 w9 := hS.1
  have ho9 := hS.2 (hL 8 (by decide))
  clear hS hL
  generalize hx8 : x 8 = v at *
  simp only [actMix, pickV, List.tail_cons, List.headD_cons, Act.put, List.setIfInBounds_toArray, List.set_cons_zero, List.set_cons_succ, List.replicate_succ, List.replicate_zero, List.drop_succ_cons, List.drop_zero, List.take_succ_cons, List.take_zero]
  obtain ⟨va, vc, rfl⟩ := own_slice ho9
  have D9 := D3.out.below hb9
  have B9 := B3.out.trans (hb9.mono B3.out.size)
  have f18 := D9.free 18
  have q18 : w9.cell? ⟨g, 18, none⟩ = some (.slice none 0 0) := by rw [(bcell hb9).1 _ _ hlt3]; exact d18
  have hgl : g < w.heap.size := HGL.out
  have KS : Keep (fun j => j = g) w9 (w9.setCell ⟨g, 18, none⟩ (.slice va n vc)) := Keep.setCell (G := fun j => j = g) w9 (p := ⟨g, 18, none⟩) rfl _
  have FX : Hid (BodyTo G g M b σ mt c r k l w (w9.setCell ⟨g, 18, none⟩ (.slice va n vc))) := by
    refine ⟨va, vc, ?_, ?_, (Keep.of_below B9).trans KS⟩
    · rw [HL.out]
      exact (by rw [HL.out] at D9; exact D9.setR 6 (.slice va n vc))
    · rw [HL.out]
      exact own_keepB ho9 KS (fun k hk => by have := (ho9.lt k hk).1; omega)
  clear D9 B9 KS ho9 hb9 D3 B3 d18 hlt3 HGL
  go_wp2_with fail
  go_ret2
  exact ⟨rfl, FX.out⟩
section
variable (G : Nat → Prop) (g : Nat) (M : HdL) (b : Int) (σ : HdS) (rest : List Value)
set_option maxHeartbeats 1000000 in
theorem step66a (P : World → Prop) (s y : ByteArray) (hf : σ.fin = false) (w : World) (h : HeS G 114 rest w g M b σ)
    (hc : Calls Tryz.prog 96 #[.pointer (some ⟨g, 0, none⟩), .string s] w fun x w' => x = .returned (.tuple #[.string y, .int .i64 0]) ∧ P w') :
    Calls Tryz.prog 66 #[.pointer (some ⟨g, 0, none⟩), .string s] w fun x w' => x = .returned (.tuple #[.string y, .int .i64 0]) ∧ P w' := by
  have HD := Lib.hid (hdoneS G 114 rest g M b σ w h)
  rw [hf] at HD
  have HC := Lib.hid hc
  clear h hc hf
  go_enter Tryz.func66, Tryz.ntmps66
  go_wp2_with fail
  with_reducible refine HD.out.mono ?_
  rintro e w' ⟨rfl, rfl⟩
  go_wp2_with fail
  with_reducible refine HC.out.mono ?_
  rintro e w1 ⟨rfl, hp⟩
  have HP := Lib.hid hp
  clear hp HC HD
  go_wp2_with fail
  go_ret2
  exact ⟨rfl, HP.out⟩
set_option maxHeartbeats 1000000 in
theorem step66b (P : World → Prop) (s y : ByteArray) (hf : σ.fin = true) (w : World) (h : HeS G 114 rest w g M b σ)
    (hc : Calls Tryz.prog 97 #[.pointer (some ⟨g, 0, none⟩), .string s] w fun x w' => x = .returned (.tuple #[.string y, .int .i64 0]) ∧ P w') :
    Calls Tryz.prog 66 #[.pointer (some ⟨g, 0, none⟩), .string s] w fun x w' => x = .returned (.tuple #[.string y, .int .i64 0]) ∧ P w' := by
  have HD := Lib.hid (hdoneS G 114 rest g M b σ w h)
  rw [hf] at HD
  have HC := Lib.hid hc
  clear h hc hf
  go_enter Tryz.func66, Tryz.ntmps66
  go_wp2_with fail
  with_reducible refine HD.out.mono ?_
  rintro e w' ⟨rfl, rfl⟩
  go_wp2_with fail
  with_reducible refine HC.out.mono ?_
  rintro e w1 ⟨rfl, hp⟩
  have HP := Lib.hid hp
  clear hp HC HD
  go_wp2_with fail
  go_ret2
  exact ⟨rfl, HP.out⟩
end
end Go.Proofs.YtbbphklhnngjmaaGreatDoor.R

/- response: a parser in memory; Feed of one response, with what stands behind it (written by genrse.py). -/
namespace Go.Proofs.YtbbphklhnngjmaaGreatDoor.R
open Go.RowKit

/-- Where the feeding of one response stands: the bytes that are left, the world. -/
inductive PhR (G : Nat → Prop) (g : Nat) (M : HdL) (b : Int) (w : World) (mt : List UInt8) (cd : Int) (rs l0 bd p fl : List UInt8) (fs : List Fld) (k n : Int) : List UInt8 → World → Prop
  | p0 (wr : World) (h : HeS G 114 (psR mt 0 [] 0 0 (.slice none 0 0) false false) wr g M b hd0) (hu : Up G wr) (hk : Keep G w wr) : PhR G g M b w mt cd rs l0 bd p fl fs k n l0 wr
  | p1 (σ : HdS) (s : List UInt8) (wr : World) (h : HeS G 114 (psR mt cd rs 0 0 (.slice none 0 0) true false) wr g M b σ) (hu : Up G wr) (hk : Keep G w wr) (hb : σ.begun = true) (hf : σ.fin = false) (hr : hRun M σ s = .done fl fs) (hl : hLeft M σ s = bd ++ p) (hn : s ≠ []) (hw : σ.wt + 4 * s.length ≤ 1000000000) : PhR G g M b w mt cd rs l0 bd p fl fs k n s wr
  | p2 (wr : World) (h : HeS G 114 (psR mt cd rs k n (.slice none 0 0) true false) wr g M b (.done fl fs)) (hu : Up G wr) (hk : Keep G w wr) (hn : bd ≠ []) (hw : (bd ++ p).length ≤ 1000000000) : PhR G g M b w mt cd rs l0 bd p fl fs k n (bd ++ p) wr
  | p3 (wr : World) (ba : Option Addr) (bc : Nat) (h : HeS G 114 (psR mt cd rs k n (.slice ba bd.length bc) true true) wr g M b (.done fl fs)) (ho : wr.ownsRow w.heap.size 5 1 (.slice ba bd.length bc) bd.length (byteVals bd)) (hk : Keep G w wr) : PhR G g M b w mt cd rs l0 bd p fl fs k n p wr
/-- What the feeding of one response comes to. -/
def FeedR (G : Nat → Prop) (g : Nat) (M : HdL) (b : Int) (w : World) (mt : List UInt8) (cd : Int) (rs bd p fl : List UInt8) (fs : List Fld) (k n : Int) (x : Ending) (w' : World) : Prop :=
  ∃ ba bc, x = .returned (.tuple #[.string (bs p), .int .i64 0]) ∧ HeS G 114 (psR mt cd rs k n (.slice ba bd.length bc) true true) w' g M b (.done fl fs) ∧ w'.ownsRow w.heap.size 5 1 (.slice ba bd.length bc) bd.length (byteVals bd) ∧ Keep G w w'
theorem hLeft_len (M : HdL) (σ : HdS) (l : List UInt8) : (hLeft M σ l).length ≤ l.length := by
  obtain ⟨a, ha⟩ := mLeft_suffix (M.step anyFirst) HdS.fin l σ
  have := congrArg List.length ha
  rw [List.length_append] at this
  show (mLeft _ _ _ _).length ≤ _
  omega
set_option maxRecDepth 100000 in
set_option maxHeartbeats 8000000 in
theorem feed31 (G : Nat → Prop) (g : Nat) (M : HdL) (b : Int) (mt : List UInt8) (cd : Int) (rs l0 l1 bd p fl : List UInt8) (σ1 : HdS) (fs : List Fld) (k n : Int)
    (hfd : Found l0) (hl0 : l0.length ≤ 1000000) (hr0 : hRun M hd0 (l0.take (nlAt l0)) = σ1) (hd : l0.drop (nlAt l0) = l1) (hb1 : σ1.begun = true) (hf1 : σ1.fin = false) (he1 : σ1.errOf = 0) (hst : stP σ1.firstOf = some (cd, rs)) (hz : σ1.firstOf.length ≤ 4000000000)
    (hn1 : l1 ≠ []) (hr1 : hRun M σ1 l1 = .done fl fs) (hlf : hLeft M σ1 l1 = bd ++ p)
    (hfl : fs.length ≤ 1000000) (hok : ∀ f ∈ fs, FldOk f) (hF : FramesR mt cd b fs k n) (hN : n = (bd.length : Int))
    (w : World) (hp : HeS G 114 (psR mt 0 [] 0 0 (.slice none 0 0) false false) w g M b hd0) (hu : Up G w) (hM : ∀ w', Keep G w w' → MaxL w') (hY : ∀ w', Keep G w w' → Syn w') :
    Calls Tryz.prog 31 #[.pointer (some ⟨g, 0, none⟩), .string (bs l0)] w (FeedR G g M b w mt cd rs bd p fl fs k n) := by
  have H0 : Hid (PhR G g M b w mt cd rs l0 bd p fl fs k n l0 w) := .p0 w hp hu (Keep.refl G w)
  have HM := Lib.hid hM
  have HY := Lib.hid hY
  have DN : ∀ (W : World) k, Below W.heap.size W (W.drewN k) := fun W k => ⟨rfl, rfl, rfl, Nat.le_refl _, fun _ _ => rfl⟩
  have HDN := Lib.hid DN
  have hn0 : l0 ≠ [] := by obtain ⟨j, _, _, hj⟩ := hfd; rintro rfl; cases hj
  have HL10 : Hid (l1.length < l0.length) := by
    show _ < _
    rw [← hd, List.length_drop]
    have := nlAt_pos hn0
    have := nlAt_le l0
    have := List.length_pos_iff.2 hn0
    omega
  have hk3 : (k == 3) = false := by
    rcases hF with ⟨_, rfl, _⟩ | ⟨_, rfl, _⟩ <;> rfl
  have HW1 : Hid (σ1.wt + 4 * l1.length ≤ 1000000000) := by
    show _ ≤ _
    have h1 := run_wt M (l0.take (nlAt l0)) hd0
    rw [hr0] at h1
    have h2 : hd0.wt = 0 := rfl
    have h3 : (l0.take (nlAt l0)).length ≤ l0.length := by rw [List.length_take]; omega
    have h4 := HL10.out
    omega
  have HSA : Hid (∀ W, HeS G 114 (psR mt 0 [] 0 0 (.slice none 0 0) true false) W g M b hd0 → Up G W → (∀ w', Keep G W w' → MaxL w') → (∀ w', Keep G W w' → Syn w') → Calls Tryz.prog 66 #[.pointer (some ⟨g, 0, none⟩), .string (bs l0)] W fun x w' => x = .returned (.tuple #[.string (bs l1), .int .i64 0]) ∧ (HeS G 114 (psR mt cd rs 0 0 (.slice none 0 0) true false) w' g M b σ1 ∧ Keep G W w')) := fun W hW hU hMM hYY => by
    have := fhead96a G g M b hd0 σ1 mt 0 [] l0 hfd (by have : hd0.wt = 0 := rfl; omega) hr0 rfl hb1 he1 cd rs hst hz W hW hU hMM hYY
    rw [hd] at this
    exact step66a G g M b hd0 _ _ _ _ rfl W hW this
  have HSB : Hid (∀ (σ σ2 : HdS) (s : List UInt8) W, HeS G 114 (psR mt cd rs 0 0 (.slice none 0 0) true false) W g M b σ → Up G W → (∀ w', Keep G W w' → MaxL w') → (∀ w', Keep G W w' → Syn w') → σ.begun = true → σ.fin = false → Found s → σ.wt + 4 * s.length ≤ 1000000000 → hRun M σ (s.take (nlAt s)) = σ2 → σ2.halt = false → Calls Tryz.prog 66 #[.pointer (some ⟨g, 0, none⟩), .string (bs s)] W fun x w' => x = .returned (.tuple #[.string (bs (s.drop (nlAt s))), .int .i64 0]) ∧ (HeS G 114 (psR mt cd rs 0 0 (.slice none 0 0) true false) w' g M b σ2 ∧ Keep G W w')) := fun σ σ2 s W hW hU hMM hYY hb hf hfs hw hr hh =>
    step66a G g M b σ _ _ _ _ hf W hW (fhead96b G g M b σ σ2 mt cd rs s hfs hw hr hb (halt_fin hh) (halt_err hh) W hW hU hMM hYY)
  have HSC : Hid (∀ (σ : HdS) (s : List UInt8) W, HeS G 114 (psR mt cd rs 0 0 (.slice none 0 0) true false) W g M b σ → Up G W → (∀ w', Keep G W w' → MaxL w') → (∀ w', Keep G W w' → Syn w') → σ.begun = true → σ.fin = false → Found s → σ.wt + 4 * s.length ≤ 1000000000 → hRun M σ (s.take (nlAt s)) = .done fl fs → Calls Tryz.prog 66 #[.pointer (some ⟨g, 0, none⟩), .string (bs s)] W fun x w' => x = .returned (.tuple #[.string (bs (s.drop (nlAt s))), .int .i64 0]) ∧ (HeS G 114 (psR mt cd rs k n (.slice none 0 0) true false) w' g M b (.done fl fs) ∧ Keep G W w')) := fun σ s W hW hU hMM hYY hb hf hfs hw hr =>
    step66a G g M b σ _ _ _ _ hf W hW (fhead96c G g M b σ (.done fl fs) mt cd rs s hfs hw hr hb rfl (fun e he => by cases he) rfl fs rfl hfl hok k n hF W hW hU hMM hYY)
  have HSD : Hid (∀ W, HeS G 114 (psR mt cd rs k n (.slice none 0 0) true false) W g M b (.done fl fs) → (bd ++ p).length ≤ 1000000000 → Calls Tryz.prog 66 #[.pointer (some ⟨g, 0, none⟩), .string (bs (bd ++ p))] W fun x w' => x = .returned (.tuple #[.string (bs p), .int .i64 0]) ∧ BodyTo G g M b (.done fl fs) mt cd rs k bd W w') := fun W hW hwb => by
    subst hN
    exact step66b G g M b (.done fl fs) _ _ _ _ rfl W hW (fbody97 G g M b (.done fl fs) mt cd rs k hk3 bd p hwb W hW)
  have HCO : Hid (∀ (σ : HdS) (c : Int) (r : List UInt8) (k n : Int) (hk3 : (k == 3) = false) ba (j bc : Nat) (q : Bool) (hq : q = (σ.fin && ((j : Int) == n))) W, HeS G 114 (psR mt c r k n (.slice ba j bc) true false) W g M b σ → Calls Tryz.prog 68 #[.pointer (some ⟨g, 0, none⟩)] W fun x w' => x = .returned (.bool q) ∧ ∃ n, w' = W.drewN n) := fun σ c r k n hk3 ba j bc q hq W hW => complete68 G g M b σ mt c r k n hk3 ba j bc q hq W hW
  have HNN := Lib.hid hN
  have HN0 := Lib.hid hn0
  have HN1 := Lib.hid hn1
  have HF1 := Lib.hid hf1
  have HB1 := Lib.hid hb1
  have HR1 := Lib.hid hr1
  have HLF := Lib.hid hlf
  have HK3 := Lib.hid hk3
  clear hp hu hM hY DN hr0 hd hb1 hf1 he1 hst hz hr1 hlf hok hF hN hn0 hn1 hl0 hfd hfl hk3
  obtain ⟨S0, hS0⟩ : ∃ S, S = bs l0 := ⟨_, rfl⟩
  rw [← hS0]
  have HS0 := Lib.hid hS0
  clear hS0
  go_enter Tryz.func31, Tryz.ntmps31
  go_wp2_with fail
  go_loopw [1] (fun sv wr => ∃ (s : List UInt8), sv = .string (bs s) ∧ Hid (PhR G g M b w mt cd rs l0 bd p fl fs k n s wr)) (fun sv _ => (strOfH sv).size)
  case atStart => exact ⟨l0, by rw [HS0.out], H0⟩
  case round =>
    clear H0 HS0
    obtain ⟨s, rfl, HP⟩ := hrel
    have hph := HP.out
    clear HP
    cases hph with
    | p0 wr h hu hk =>
      have hne' : 0 < (bs l0).size := by rw [bs_size]; exact List.length_pos_iff.2 (HN0.out)
      have e1 := emp_false (bs l0) hne'
      have k22 := h.cellR 10
      have k21 := h.cellR 9
      have k20 := h.cellR 8
      have f20 := h.free 20
      have f21 := h.free 21
      simp only [psR, List.tail_cons, List.getElem?_cons_zero, List.getElem?_cons_succ, Nat.reduceAdd] at k22 k21 k20
      have D2 : Hid (HeS G 114 (psR mt 0 [] 0 0 (.slice none 0 0) true false) (wr.setCell ⟨g, 20, none⟩ (.bool true)) g M b hd0) := h.setR 8 (.bool true)
      have K2 : Hid (Keep G wr (wr.setCell ⟨g, 20, none⟩ (.bool true))) := Keep.setCell wr (p := ⟨g, 20, none⟩) h.gG _
      have U2 : Hid (Up G (wr.setCell ⟨g, 20, none⟩ (.bool true))) := hu.keep K2.out
      have M2 : Hid (∀ w', Keep G (wr.setCell ⟨g, 20, none⟩ (.bool true)) w' → MaxL w') := fun w' hk' => HM.out w' (hk.trans (K2.out.trans hk'))
      have Y2 : Hid (∀ w', Keep G (wr.setCell ⟨g, 20, none⟩ (.bool true)) w' → Syn w') := fun w' hk' => HY.out w' (hk.trans (K2.out.trans hk'))
      obtain ⟨w2, hw2⟩ : ∃ w2, w2 = wr.setCell ⟨g, 20, none⟩ (.bool true) := ⟨_, rfl⟩
      rw [← hw2] at D2 K2 U2 M2 Y2
      have HW2 := Lib.hid hw2
      have HKW := Lib.hid hk
      have HUW := Lib.hid hu
      have HST := Lib.hid (HSA.out w2 D2.out U2.out M2.out Y2.out)
      have HLT : Hid ((bs l1).size < (bs l0).size) := by show _ < _; rw [bs_size, bs_size]; exact HL10.out
      obtain ⟨y, hy⟩ : ∃ y, y = bs l1 := ⟨_, rfl⟩
      obtain ⟨z, hz⟩ : ∃ z, z = bs l0 := ⟨_, rfl⟩
      rw [← hy, ← hz] at HST HLT
      rw [← hz] at e1 hne' ⊢
      have HYY := Lib.hid hy
      clear h hu hk hw2 hy hz
      go_wp2_with fail
      rw [← HW2.out]
      with_reducible refine HST.out.mono ?_
      rintro e9 w3 ⟨rfl, hd3, hk3⟩
      have D3 := Lib.hid hd3
      have K3 := Lib.hid (HKW.out.trans (K2.out.trans hk3))
      have U3 := Lib.hid (HUW.out.keep (K2.out.trans hk3))
      clear hd3 hk3 HST k22 k21 k20 f20 f21
      have HC := Lib.hid (HCO.out σ1 cd rs 0 0 rfl none 0 0 false (by rw [HF1.out]; rfl) w3 D3.out)
      go_wp2_with fail
      with_reducible refine HC.out.mono ?_
      rintro e9 w4 ⟨rfl, i4, rfl⟩
      have D4 : Hid (HeS G 114 (psR mt cd rs 0 0 (.slice none 0 0) true false) (w3.drewN i4) g M b σ1) := D3.out.below (HDN.out _ _)
      have k21 := D4.out.cellR 9
      have f21 := D4.out.free 21
      simp only [psR, List.tail_cons, List.getElem?_cons_zero, List.getElem?_cons_succ, Nat.reduceAdd] at k21
      have KS : Hid (Keep (fun j => j = g) (w3.drewN i4) ((w3.drewN i4).setCell ⟨g, 21, none⟩ (.bool false))) := Keep.setCell (G := fun j => j = g) _ (p := ⟨g, 21, none⟩) rfl _
      have D5 : Hid (HeS G 114 (psR mt cd rs 0 0 (.slice none 0 0) true false) ((w3.drewN i4).setCell ⟨g, 21, none⟩ (.bool false)) g M b σ1) := D4.out.setR 9 (.bool false)
      have GG : Hid (G g) := D4.out.gG
      have K5 : Hid (Keep G w ((w3.drewN i4).setCell ⟨g, 21, none⟩ (.bool false))) := K3.out.trans ((Keep.of_below (HDN.out _ _)).trans (KS.out.more (fun j _ hj => by rw [hj]; exact GG.out)))
      have HPN : Hid (PhR G g M b w mt cd rs l0 bd p fl fs k n l1 ((w3.drewN i4).setCell ⟨g, 21, none⟩ (.bool false))) := .p1 σ1 l1 _ D5.out (U3.out.keep ((Keep.of_below (HDN.out _ _)).trans (KS.out.more (fun j _ hj => by rw [hj]; exact GG.out)))) K5.out HB1.out HF1.out HR1.out HLF.out HN1.out HW1.out
      clear HC D4
      go_wp2_with fail
      go_roundw
      case rel => exact ⟨l1, by rw [HYY.out], HPN⟩
      case measure => show y.size < z.size; have := HLT.out; omega
    | p1 σ s wr h hu hk hb hf hr hl hn hw =>
      have hlr := line_run M σ s fl fs hf hr
      have hfnd := found_of M σ s fl fs hf hr
      have HLT : Hid ((bs (s.drop (nlAt s))).size < (bs s).size) := by
        show _ < _
        rw [bs_size, bs_size, List.length_drop]
        have := nlAt_pos hn
        have := List.length_pos_iff.2 hn
        omega
      have hne' : 0 < (bs s).size := by rw [bs_size]; exact List.length_pos_iff.2 (hn)
      have e1 := emp_false (bs s) hne'
      have k22 := h.cellR 10
      have k21 := h.cellR 9
      have k20 := h.cellR 8
      have f20 := h.free 20
      have f21 := h.free 21
      simp only [psR, List.tail_cons, List.getElem?_cons_zero, List.getElem?_cons_succ, Nat.reduceAdd] at k22 k21 k20
      have D2 : Hid (HeS G 114 (psR mt cd rs 0 0 (.slice none 0 0) true false) (wr.setCell ⟨g, 20, none⟩ (.bool true)) g M b σ) := h.setR 8 (.bool true)
      have K2 : Hid (Keep G wr (wr.setCell ⟨g, 20, none⟩ (.bool true))) := Keep.setCell wr (p := ⟨g, 20, none⟩) h.gG _
      have U2 : Hid (Up G (wr.setCell ⟨g, 20, none⟩ (.bool true))) := hu.keep K2.out
      have M2 : Hid (∀ w', Keep G (wr.setCell ⟨g, 20, none⟩ (.bool true)) w' → MaxL w') := fun w' hk' => HM.out w' (hk.trans (K2.out.trans hk'))
      have Y2 : Hid (∀ w', Keep G (wr.setCell ⟨g, 20, none⟩ (.bool true)) w' → Syn w') := fun w' hk' => HY.out w' (hk.trans (K2.out.trans hk'))
      obtain ⟨w2, hw2⟩ : ∃ w2, w2 = wr.setCell ⟨g, 20, none⟩ (.bool true) := ⟨_, rfl⟩
      rw [← hw2] at D2 K2 U2 M2 Y2
      have HW2 := Lib.hid hw2
      have HKW := Lib.hid hk
      have HUW := Lib.hid hu
      rcases hlr with ⟨hq1, hq2⟩ | ⟨hq1, hq2, hq3, hq4⟩
      · have hbl : (bd ++ p).length ≤ 1000000000 := by
          have := hLeft_len M σ s
          rw [hl] at this
          omega
        have hdr : s.drop (nlAt s) = bd ++ p := hq2.symm.trans hl
        have HDR := Lib.hid hdr
        have HBL := Lib.hid hbl
        have HST := Lib.hid (HSC.out σ s w2 D2.out U2.out M2.out Y2.out hb hf hfnd hw hq1)
        clear hdr hbl hq2
        obtain ⟨y, hy⟩ : ∃ y, y = bs (s.drop (nlAt s)) := ⟨_, rfl⟩
        obtain ⟨z, hz⟩ : ∃ z, z = bs s := ⟨_, rfl⟩
        rw [← hy, ← hz] at HST HLT
        rw [← hz] at e1 hne' ⊢
        have HYY := Lib.hid hy
        clear h hu hk hw2 hy hz hb hf hr hl hn hw hfnd hq1
        go_wp2_with fail
        rw [← HW2.out]
        with_reducible refine HST.out.mono ?_
        rintro e9 w3 ⟨rfl, hd3, hk3⟩
        have D3 := Lib.hid hd3
        have K3 := Lib.hid (HKW.out.trans (K2.out.trans hk3))
        have U3 := Lib.hid (HUW.out.keep (K2.out.trans hk3))
        clear hd3 hk3 HST k22 k21 k20 f20 f21
        by_cases hbd : bd = []
        · have HBD := Lib.hid hbd
          clear hbd
          have HC := Lib.hid (HCO.out (.done fl fs) cd rs k n HK3.out none 0 0 true (by rw [HNN.out, HBD.out]; rfl) w3 D3.out)
          go_wp2_with fail
          with_reducible refine HC.out.mono ?_
          rintro e9 w4 ⟨rfl, i4, rfl⟩
          have D4 : Hid (HeS G 114 (psR mt cd rs k n (.slice none 0 0) true false) (w3.drewN i4) g M b (.done fl fs)) := D3.out.below (HDN.out _ _)
          have k21 := D4.out.cellR 9
          have f21 := D4.out.free 21
          simp only [psR, List.tail_cons, List.getElem?_cons_zero, List.getElem?_cons_succ, Nat.reduceAdd] at k21
          have KS : Hid (Keep (fun j => j = g) (w3.drewN i4) ((w3.drewN i4).setCell ⟨g, 21, none⟩ (.bool true))) := Keep.setCell (G := fun j => j = g) _ (p := ⟨g, 21, none⟩) rfl _
          have D5 : Hid (HeS G 114 (psR mt cd rs k n (.slice none 0 0) true true) ((w3.drewN i4).setCell ⟨g, 21, none⟩ (.bool true)) g M b (.done fl fs)) := D4.out.setR 9 (.bool true)
          have GG : Hid (G g) := D4.out.gG
          have K5 : Hid (Keep G w ((w3.drewN i4).setCell ⟨g, 21, none⟩ (.bool true))) := K3.out.trans ((Keep.of_below (HDN.out _ _)).trans (KS.out.more (fun j _ hj => by rw [hj]; exact GG.out)))
          have D6 : Hid (HeS G 114 (psR mt cd rs k n (.slice none bd.length 0) true true) ((w3.drewN i4).setCell ⟨g, 21, none⟩ (.bool true)) g M b (.done fl fs)) := by
            have e : bd.length = 0 := by rw [HBD.out]; rfl
            show HeS _ _ _ _ _ _ _ _
            rw [e]
            exact D5.out
          have O6 : Hid (((w3.drewN i4).setCell ⟨g, 21, none⟩ (.bool true)).ownsRow w.heap.size 5 1 (.slice none bd.length 0) bd.length (byteVals bd)) := by
            rw [HBD.out]
            exact World.ownsRow_nil _ _ _ 1
          have HPN : Hid (PhR G g M b w mt cd rs l0 bd p fl fs k n p ((w3.drewN i4).setCell ⟨g, 21, none⟩ (.bool true))) := .p3 _ none 0 D6.out O6.out K5.out
          clear HC D4
          go_wp2_with fail
          go_roundw
          case rel => exact ⟨p, by rw [HYY.out, HDR.out, HBD.out]; rfl, HPN⟩
          case measure => show y.size < z.size; have := HLT.out; omega
        · have HBD := Lib.hid hbd
          have hnz : false = ((HdS.done fl fs).fin && (((0 : Nat) : Int) == n)) := by
            rw [HNN.out]
            have := List.length_pos_iff.2 hbd
            have e : (((0 : Nat) : Int) == (bd.length : Int)) = false := beq_eq_false_iff_ne.2 (by omega)
            rw [e]
            rfl
          have HNZ := Lib.hid hnz
          clear hbd hnz
          have HC := Lib.hid (HCO.out (.done fl fs) cd rs k n HK3.out none 0 0 false HNZ.out w3 D3.out)
          go_wp2_with fail
          with_reducible refine HC.out.mono ?_
          rintro e9 w4 ⟨rfl, i4, rfl⟩
          have D4 : Hid (HeS G 114 (psR mt cd rs k n (.slice none 0 0) true false) (w3.drewN i4) g M b (.done fl fs)) := D3.out.below (HDN.out _ _)
          have k21 := D4.out.cellR 9
          have f21 := D4.out.free 21
          simp only [psR, List.tail_cons, List.getElem?_cons_zero, List.getElem?_cons_succ, Nat.reduceAdd] at k21
          have KS : Hid (Keep (fun j => j = g) (w3.drewN i4) ((w3.drewN i4).setCell ⟨g, 21, none⟩ (.bool false))) := Keep.setCell (G := fun j => j = g) _ (p := ⟨g, 21, none⟩) rfl _
          have D5 : Hid (HeS G 114 (psR mt cd rs k n (.slice none 0 0) true false) ((w3.drewN i4).setCell ⟨g, 21, none⟩ (.bool false)) g M b (.done fl fs)) := D4.out.setR 9 (.bool false)
          have GG : Hid (G g) := D4.out.gG
          have K5 : Hid (Keep G w ((w3.drewN i4).setCell ⟨g, 21, none⟩ (.bool false))) := K3.out.trans ((Keep.of_below (HDN.out _ _)).trans (KS.out.more (fun j _ hj => by rw [hj]; exact GG.out)))
          have HPN : Hid (PhR G g M b w mt cd rs l0 bd p fl fs k n (bd ++ p) ((w3.drewN i4).setCell ⟨g, 21, none⟩ (.bool false))) := .p2 _ D5.out (U3.out.keep ((Keep.of_below (HDN.out _ _)).trans (KS.out.more (fun j _ hj => by rw [hj]; exact GG.out)))) K5.out HBD.out HBL.out
          clear HC D4
          go_wp2_with fail
          go_roundw
          case rel => exact ⟨bd ++ p, by rw [HYY.out, HDR.out], HPN⟩
          case measure => show y.size < z.size; have := HLT.out; omega
      · obtain ⟨σ2, hσ2⟩ : ∃ σ2, hRun M σ (s.take (nlAt s)) = σ2 := ⟨_, rfl⟩
        have hwr := run_wt M (s.take (nlAt s)) σ
        have hbr := run_begun M (s.take (nlAt s)) σ hb
        rw [hσ2] at hq1 hq2 hq3 hwr hbr
        have HST := Lib.hid (HSB.out σ σ2 s w2 D2.out U2.out M2.out Y2.out hb hf hfnd hw hσ2 hq1)
        have HF2 : Hid (σ2.fin = false) := halt_fin hq1
        have HB2 : Hid (σ2.begun = true) := by
          rcases hbr with h | ⟨e, h⟩
          · exact h
          · rw [h] at hq1; cases hq1
        have HQ2 := Lib.hid hq2
        have HQ3 : Hid (hLeft M σ2 (s.drop (nlAt s)) = bd ++ p) := hq3.trans hl
        have HQ4 := Lib.hid hq4
        have HQ5 : Hid (σ2.wt + 4 * (s.drop (nlAt s)).length ≤ 1000000000) := by
          show _ ≤ _
          have := nlAt_le s
          rw [List.length_take] at hwr
          rw [List.length_drop]
          omega
        clear hq2 hq3 hq4 hwr hbr hσ2
        obtain ⟨y, hy⟩ : ∃ y, y = bs (s.drop (nlAt s)) := ⟨_, rfl⟩
        obtain ⟨z, hz⟩ : ∃ z, z = bs s := ⟨_, rfl⟩
        rw [← hy, ← hz] at HST HLT
        rw [← hz] at e1 hne' ⊢
        have HYY := Lib.hid hy
        clear h hu hk hw2 hy hz hb hf hr hl hn hw hfnd hq1
        go_wp2_with fail
        rw [← HW2.out]
        with_reducible refine HST.out.mono ?_
        rintro e9 w3 ⟨rfl, hd3, hk3⟩
        have D3 := Lib.hid hd3
        have K3 := Lib.hid (HKW.out.trans (K2.out.trans hk3))
        have U3 := Lib.hid (HUW.out.keep (K2.out.trans hk3))
        clear hd3 hk3 HST k22 k21 k20 f20 f21
        have HC := Lib.hid (HCO.out σ2 cd rs 0 0 rfl none 0 0 false (by rw [HF2.out]; rfl) w3 D3.out)
        go_wp2_with fail
        with_reducible refine HC.out.mono ?_
        rintro e9 w4 ⟨rfl, i4, rfl⟩
        have D4 : Hid (HeS G 114 (psR mt cd rs 0 0 (.slice none 0 0) true false) (w3.drewN i4) g M b σ2) := D3.out.below (HDN.out _ _)
        have k21 := D4.out.cellR 9
        have f21 := D4.out.free 21
        simp only [psR, List.tail_cons, List.getElem?_cons_zero, List.getElem?_cons_succ, Nat.reduceAdd] at k21
        have KS : Hid (Keep (fun j => j = g) (w3.drewN i4) ((w3.drewN i4).setCell ⟨g, 21, none⟩ (.bool false))) := Keep.setCell (G := fun j => j = g) _ (p := ⟨g, 21, none⟩) rfl _
        have D5 : Hid (HeS G 114 (psR mt cd rs 0 0 (.slice none 0 0) true false) ((w3.drewN i4).setCell ⟨g, 21, none⟩ (.bool false)) g M b σ2) := D4.out.setR 9 (.bool false)
        have GG : Hid (G g) := D4.out.gG
        have K5 : Hid (Keep G w ((w3.drewN i4).setCell ⟨g, 21, none⟩ (.bool false))) := K3.out.trans ((Keep.of_below (HDN.out _ _)).trans (KS.out.more (fun j _ hj => by rw [hj]; exact GG.out)))
        have HPN : Hid (PhR G g M b w mt cd rs l0 bd p fl fs k n (s.drop (nlAt s)) ((w3.drewN i4).setCell ⟨g, 21, none⟩ (.bool false))) := .p1 σ2 _ _ D5.out (U3.out.keep ((Keep.of_below (HDN.out _ _)).trans (KS.out.more (fun j _ hj => by rw [hj]; exact GG.out)))) K5.out HB2.out HF2.out HQ2.out HQ3.out HQ4.out HQ5.out
        clear HC D4
        go_wp2_with fail
        go_roundw
        case rel => exact ⟨s.drop (nlAt s), by rw [HYY.out], HPN⟩
        case measure => show y.size < z.size; have := HLT.out; omega
    | p2 wr h hu hk hn hw =>
      have hne' : 0 < (bs (bd ++ p)).size := by rw [bs_size]; exact List.length_pos_iff.2 (by intro e; exact hn (List.append_eq_nil_iff.1 e).1)
      have e1 := emp_false (bs (bd ++ p)) hne'
      have k22 := h.cellR 10
      have k21 := h.cellR 9
      have k20 := h.cellR 8
      have f20 := h.free 20
      have f21 := h.free 21
      simp only [psR, List.tail_cons, List.getElem?_cons_zero, List.getElem?_cons_succ, Nat.reduceAdd] at k22 k21 k20
      have D2 : Hid (HeS G 114 (psR mt cd rs k n (.slice none 0 0) true false) (wr.setCell ⟨g, 20, none⟩ (.bool true)) g M b (.done fl fs)) := h.setR 8 (.bool true)
      have K2 : Hid (Keep G wr (wr.setCell ⟨g, 20, none⟩ (.bool true))) := Keep.setCell wr (p := ⟨g, 20, none⟩) h.gG _
      have U2 : Hid (Up G (wr.setCell ⟨g, 20, none⟩ (.bool true))) := hu.keep K2.out
      have M2 : Hid (∀ w', Keep G (wr.setCell ⟨g, 20, none⟩ (.bool true)) w' → MaxL w') := fun w' hk' => HM.out w' (hk.trans (K2.out.trans hk'))
      have Y2 : Hid (∀ w', Keep G (wr.setCell ⟨g, 20, none⟩ (.bool true)) w' → Syn w') := fun w' hk' => HY.out w' (hk.trans (K2.out.trans hk'))
      obtain ⟨w2, hw2⟩ : ∃ w2, w2 = wr.setCell ⟨g, 20, none⟩ (.bool true) := ⟨_, rfl⟩
      rw [← hw2] at D2 K2 U2 M2 Y2
      have HW2 := Lib.hid hw2
      have HKW := Lib.hid hk
      have HUW := Lib.hid hu
      have HST := Lib.hid (HSD.out w2 D2.out hw)
      have HLT : Hid ((bs p).size < (bs (bd ++ p)).size) := by
        show _ < _
        rw [bs_size, bs_size, List.length_append]
        have := List.length_pos_iff.2 hn
        omega
      obtain ⟨y, hy⟩ : ∃ y, y = bs p := ⟨_, rfl⟩
      obtain ⟨z, hz⟩ : ∃ z, z = bs (bd ++ p) := ⟨_, rfl⟩
      rw [← hy, ← hz] at HST HLT
      rw [← hz] at e1 hne' ⊢
      have HYY := Lib.hid hy
      have HGG : Hid (G g) := h.gG
      have HLG := Lib.hid D2.out.lt
      clear h hu hk hw2 hy hz hn hw
      go_wp2_with fail
      rw [← HW2.out]
      with_reducible refine HST.out.mono ?_
      rintro e9 w3 ⟨rfl, ba, bc, hd3, ho3, hk3⟩
      have D3 : Hid (HeS G 114 (psR mt cd rs k n (.slice ba bd.length bc) true false) w3 g M b (.done fl fs)) := by
        show HeS _ _ _ _ _ _ _ _
        rw [HNN.out]
        exact hd3
      have O3 := Lib.hid ho3
      have hk3' : Keep G w2 w3 := hk3.more (fun j _ hj => by rw [hj]; exact HGG.out)
      have K3 := Lib.hid (HKW.out.trans (K2.out.trans hk3'))
      have HS2 : Hid (w.heap.size ≤ w2.heap.size) := (HKW.out.trans K2.out).size
      clear hd3 ho3 hk3 hk3' HST k22 k21 k20 f20 f21
      have HC := Lib.hid (HCO.out (.done fl fs) cd rs k n HK3.out ba bd.length bc true (by rw [HNN.out]; simp [HdS.fin]) w3 D3.out)
      go_wp2_with fail
      with_reducible refine HC.out.mono ?_
      rintro e9 w4 ⟨rfl, i4, rfl⟩
      have D4 : Hid (HeS G 114 (psR mt cd rs k n (.slice ba bd.length bc) true false) (w3.drewN i4) g M b (.done fl fs)) := D3.out.below (HDN.out _ _)
      have k21 := D4.out.cellR 9
      have f21 := D4.out.free 21
      simp only [psR, List.tail_cons, List.getElem?_cons_zero, List.getElem?_cons_succ, Nat.reduceAdd] at k21
      have KS : Hid (Keep (fun j => j = g) (w3.drewN i4) ((w3.drewN i4).setCell ⟨g, 21, none⟩ (.bool true))) := Keep.setCell (G := fun j => j = g) _ (p := ⟨g, 21, none⟩) rfl _
      have D5 : Hid (HeS G 114 (psR mt cd rs k n (.slice ba bd.length bc) true true) ((w3.drewN i4).setCell ⟨g, 21, none⟩ (.bool true)) g M b (.done fl fs)) := D4.out.setR 9 (.bool true)
      have GG : Hid (G g) := D4.out.gG
      have K5 : Hid (Keep G w ((w3.drewN i4).setCell ⟨g, 21, none⟩ (.bool true))) := K3.out.trans ((Keep.of_below (HDN.out _ _)).trans (KS.out.more (fun j _ hj => by rw [hj]; exact GG.out)))
      have O5 : Hid (((w3.drewN i4).setCell ⟨g, 21, none⟩ (.bool true)).ownsRow w.heap.size 5 1 (.slice ba bd.length bc) bd.length (byteVals bd)) := by
        have o4 : (w3.drewN i4).ownsRow w2.heap.size 5 1 (.slice ba bd.length bc) bd.length (byteVals bd) := own_below O3.out (HDN.out _ _)
        exact own_mono (own_keepB o4 KS.out (fun j hj => by have := (o4.lt j hj).1; have := HLG.out; omega)) HS2.out
      have HPN : Hid (PhR G g M b w mt cd rs l0 bd p fl fs k n p ((w3.drewN i4).setCell ⟨g, 21, none⟩ (.bool true))) := .p3 _ ba bc D5.out O5.out K5.out
      clear HC D4
      go_wp2_with fail
      go_roundw
      case rel => exact ⟨p, by rw [HYY.out], HPN⟩
      case measure => show y.size < z.size; have := HLT.out; omega
    | p3 wr ba bc h ho hk =>
      have k22 := h.cellR 10
      have k21 := h.cellR 9
      simp only [psR, List.tail_cons, List.getElem?_cons_zero, List.getElem?_cons_succ, Nat.reduceAdd] at k22 k21
      have FX : Hid (∀ i, FeedR G g M b w mt cd rs bd p fl fs k n (.returned (.tuple #[.string (bs p), .int .i64 0])) (wr.drewN i)) := fun i => ⟨ba, bc, rfl, h.below (HDN.out _ _), own_below ho (HDN.out _ _), hk.trans (.of_below (HDN.out _ _))⟩
      clear h ho hk
      obtain ⟨z, hz⟩ : ∃ z, z = bs p := ⟨_, rfl⟩
      rw [← hz] at FX ⊢
      by_cases hzz : 0 < z.size
      · have e1 := emp_false z hzz
        clear hz hzz
        go_wp2_with fail
        go_ret2
        exact FX.out 0
      · obtain rfl := empty_of z hzz
        clear hz hzz
        go_wp2_with fail
        go_ret2
        exact FX.out 0
end Go.Proofs.YtbbphklhnngjmaaGreatDoor.R

