/- Packed: RwI, RwE, Mch, HdM, HdN, HeA, HeB. -/
import Derived.Outline
import Derived.Maps.AppendAt
import Derived.IntWalk
import Derived.WalkSpells
import Derived.Deep.QuietTactic
import Derived.BigQuiet
import Derived.Test.YtbbphklhnngjmaaGreatDoorR00
import Derived.Test.YtbbphklhnngjmaaGreatDoorR05
import Derived.Test.YtbbphklhnngjmaaGreatDoorR07
import Derived.Test.YtbbphklhnngjmaaGreatDoorR08
import Derived.Test.YtbbphklhnngjmaaGreatDoorR09
import Derived.Test.YtbbphklhnngjmaaGreatDoorR10
import Derived.Test.YtbbphklhnngjmaaGreatDoorR11
import Derived.Test.YtbbphklhnngjmaaGreatDoorR12
/- rewrite's law: Asks; request's law: Own, of any body and kind. -/
namespace Go.Proofs.YtbbphklhnngjmaaGreatDoor
open Go.RowKit

set_option maxRecDepth 100000 in
set_option maxHeartbeats 8000000 in
theorem own17g (mm tt bb : ByteArray) (kk : Int) (a : Option Addr) (c : Nat) (fs : List Fld) (hfl : fs.length ≤ 1000000) (gs : List Fld) (hgs : gs = fs) (w : World) (hf : IsFlds w a c fs) :
    Calls Tryz.prog 17 #[.agg #[.string mm, .string tt, .slice a fs.length c, .string bb, .int .i64 kk]] w fun e w' => ∃ b d, e = .returned (.agg #[.string mm, .string tt, .slice b gs.length d, .string bb, .int .i64 kk]) ∧ (b = none → d = 0 ∧ gs = []) ∧ IsFlds w' b d (gs) ∧ Below w.heap.size w w' := by
  have HM : Hid (∀ W, IsFlds W a c fs → Calls Tryz.prog 36 #[.slice a fs.length c] W fun e w' => ∃ u, e = .returned u ∧ w'.ownsRow W.heap.size 62 2 u gs.length (cellsF gs) ∧ Below W.heap.size W w') := fun W h => by rw [hgs]; exact own40 a c fs hfl W h
  clear hfl hgs
  obtain ⟨FF, hFF⟩ : ∃ X, X = gs := ⟨_, rfl⟩
  obtain ⟨m, hm⟩ : ∃ m, m = FF.length := ⟨_, rfl⟩
  rw [← hFF] at HM ⊢
  obtain ⟨n, hn⟩ : ∃ n, n = fs.length := ⟨_, rfl⟩
  rw [← hn] at HM ⊢
  have HMM := Lib.hid hm
  have R0 := (Row.new w 39 #[.string mm, .string tt, .slice a n c, .string bb, .int .i64 kk]).alloc (.cells #[.string ⟨#[]⟩, .string ⟨#[]⟩, .slice none 0 0, .string ⟨#[]⟩, .int .i64 0] 45)
  have R1 := Row.new (w.alloc (.cells #[.string mm, .string tt, .slice a n c, .string bb, .int .i64 kk] 39)) 45 #[.string ⟨#[]⟩, .string ⟨#[]⟩, .slice none 0 0, .string ⟨#[]⟩, .int .i64 0]
  rw [show (w.alloc (.cells #[.string mm, .string tt, .slice a n c, .string bb, .int .i64 kk] 39)).heap.size = w.heap.size + 1 by simp] at R1
  have L1 := (below_alloc w (.cells #[.string mm, .string tt, .slice a n c, .string bb, .int .i64 kk] 39)).alloc (by simp) (.cells #[.string ⟨#[]⟩, .string ⟨#[]⟩, .slice none 0 0, .string ⟨#[]⟩, .int .i64 0] 45)
  have HF := Lib.hid (hf.below L1)
  clear hf hFF hn
  go_enter Tryz.func17, Tryz.ntmps17
  go_upto_region 1 with fail
  obtain ⟨bM, hbM⟩ : ∃ bM, bM = w.heap.size := ⟨_, rfl⟩
  obtain ⟨bR, hbR⟩ : ∃ bR, bR = w.heap.size + 1 := ⟨_, rfl⟩
  have hbR0 : w.heap.size ≤ bR := by omega
  rw [← hbM] at R0
  rw [← hbR] at R1 ⊢
  rw [← hbM]
  generalize World.alloc (World.alloc w _) _ = w1 at *
  have HL1 := Lib.hid L1
  have r0 : w1.cell? ⟨bM, 0, none⟩ = some (.string mm) := R0.cell 0
  have r1 : w1.cell? ⟨bM, 1, none⟩ = some (.string tt) := R0.cell 1
  have r2 : w1.cell? ⟨bM, 2, none⟩ = some (.slice a n c) := R0.cell 2
  have r3 : w1.cell? ⟨bM, 3, none⟩ = some (.string bb) := R0.cell 3
  have r4 : w1.cell? ⟨bM, 4, none⟩ = some (.int .i64 kk) := R0.cell 4
  have hlt := R0.lt
  have RR := Lib.hid R1
  clear L1 R0 R1 hbM hbR hm
  rw [← HMM.out] at HM
  refine region_mixt 13 [some (.pointer (some ⟨bM, 0, none⟩)), some (.string mm), some (.pointer (some ⟨bM, 1, none⟩)), some (.string tt), some (.agg #[.string mm, .string tt]), some (.pointer (some ⟨bM, 2, none⟩)), some (.slice a n c), none, some (.pointer (some ⟨bM, 3, none⟩)), some (.string bb), some (.pointer (some ⟨bM, 4, none⟩)), some (.int .i64 kk), none]
    [[false, false, false, false, false, false, false, false, false, false, false, false, false], [true, false, false, false, false, false, false, false, false, false, false, false, false], [false, false, false, false, false, false, false, false, false, false, false, false, false], [false, false, true, false, false, false, false, false, false, false, false, false, false], [false, true, false, true, false, false, false, false, false, false, false, false, false], [false, false, false, false, false, false, false, false, false, false, false, false, false], [false, false, false, false, false, true, false, false, false, false, false, false, false], [false, false, false, false, false, false, true, false, false, false, false, false, false], [false, false, false, false, false, false, false, false, false, false, false, false, false], [false, false, false, false, false, false, false, false, true, false, false, false, false], [false, false, false, false, false, false, false, false, false, false, false, false, false], [false, false, false, false, false, false, false, false, false, false, true, false, false], [false, false, false, false, true, false, false, true, false, true, false, true, false]]
    (fun L x w9 => Below w1.heap.size w1 w9 ∧ (L 7 = true → ∃ b d, x 7 = .slice b m d ∧ (b = none → d = 0 ∧ FF = []) ∧ IsFlds w9 b d FF ∧ (∀ ad, b = some ad → w1.heap.size ≤ ad.block)) ∧ (L 12 = true → L 7 = true ∧ x 12 = .agg #[.string mm, .string tt, x 7, .string bb, .int .i64 kk]))
    (by kernel_rfl) (by kernel_rfl) (by kernel_rfl) (by kernel_rfl) (by kernel_rfl) (by decide) ?_ ?_ ?_
  · intro _
    exact ⟨⟨rfl, rfl, rfl, Nat.le_refl _, fun _ _ => rfl⟩, (fun h => by cases h), (fun h => by cases h)⟩
  · simp only [List.take_succ_cons, List.take_zero]
    refine ⟨?_, ?_, ?_, ?_, ?_, ?_, ?_, ?_, ?_, ?_, ?_, ?_, ?_, trivial⟩
    all_goals
      intro L x w9 hS hl hp K9 hK9
      have hs : Below w1.heap.size w1 w9 ∧ (L 7 = true → ∃ b d, x 7 = .slice b m d ∧ (b = none → d = 0 ∧ FF = []) ∧ IsFlds w9 b d FF ∧ (∀ ad, b = some ad → w1.heap.size ≤ ad.block)) ∧ (L 12 = true → L 7 = true ∧ x 12 = .agg #[.string mm, .string tt, x 7, .string bb, .int .i64 kk]) := hS
      clear hS
      replace hK9 := hK9.out
      simp only [actMix, pickV, List.tail_cons, List.headD_cons, Act.put, List.setIfInBounds_toArray, List.set_cons_zero, List.set_cons_succ] at hK9 ⊢
    · clear hp
      go_simp
      with_reducible refine hK9 _ ?_
      exact ⟨hs.1, fun h => by
        obtain ⟨b, d, h1, h2, h3, h4⟩ := hs.2.1 (by simpa [setL] using h)
        exact ⟨b, d, by simpa [updV] using h1, h2, h3, h4⟩, fun h => by
        obtain ⟨h1, h2⟩ := hs.2.2 (by simpa [setL] using h)
        exact ⟨by simpa [setL] using h1, by simpa [updV] using h2⟩⟩
    · have s0 : w9.cell? ⟨bM, 0, none⟩ = some (.string mm) := by rw [(bcell hs.1).1 _ _ hlt]; exact r0
      clear hp
      go_simp
      with_reducible refine hK9 _ ?_
      exact ⟨hs.1, fun h => by
        obtain ⟨b, d, h1, h2, h3, h4⟩ := hs.2.1 (by simpa [setL] using h)
        exact ⟨b, d, by simpa [updV] using h1, h2, h3, h4⟩, fun h => by
        obtain ⟨h1, h2⟩ := hs.2.2 (by simpa [setL] using h)
        exact ⟨by simpa [setL] using h1, by simpa [updV] using h2⟩⟩
    · clear hp
      go_simp
      with_reducible refine hK9 _ ?_
      exact ⟨hs.1, fun h => by
        obtain ⟨b, d, h1, h2, h3, h4⟩ := hs.2.1 (by simpa [setL] using h)
        exact ⟨b, d, by simpa [updV] using h1, h2, h3, h4⟩, fun h => by
        obtain ⟨h1, h2⟩ := hs.2.2 (by simpa [setL] using h)
        exact ⟨by simpa [setL] using h1, by simpa [updV] using h2⟩⟩
    · have s1 : w9.cell? ⟨bM, 1, none⟩ = some (.string tt) := by rw [(bcell hs.1).1 _ _ hlt]; exact r1
      clear hp
      go_simp
      with_reducible refine hK9 _ ?_
      exact ⟨hs.1, fun h => by
        obtain ⟨b, d, h1, h2, h3, h4⟩ := hs.2.1 (by simpa [setL] using h)
        exact ⟨b, d, by simpa [updV] using h1, h2, h3, h4⟩, fun h => by
        obtain ⟨h1, h2⟩ := hs.2.2 (by simpa [setL] using h)
        exact ⟨by simpa [setL] using h1, by simpa [updV] using h2⟩⟩
    · clear hp
      go_simp
      with_reducible refine hK9 _ ?_
      exact ⟨hs.1, fun h => by
        obtain ⟨b, d, h1, h2, h3, h4⟩ := hs.2.1 (by simpa [setL] using h)
        exact ⟨b, d, by simpa [updV] using h1, h2, h3, h4⟩, fun h => by
        obtain ⟨h1, h2⟩ := hs.2.2 (by simpa [setL] using h)
        exact ⟨by simpa [setL] using h1, by simpa [updV] using h2⟩⟩
    · clear hp
      go_simp
      with_reducible refine hK9 _ ?_
      exact ⟨hs.1, fun h => by
        obtain ⟨b, d, h1, h2, h3, h4⟩ := hs.2.1 (by simpa [setL] using h)
        exact ⟨b, d, by simpa [updV] using h1, h2, h3, h4⟩, fun h => by
        obtain ⟨h1, h2⟩ := hs.2.2 (by simpa [setL] using h)
        exact ⟨by simpa [setL] using h1, by simpa [updV] using h2⟩⟩
    · have s2 : w9.cell? ⟨bM, 2, none⟩ = some (.slice a n c) := by rw [(bcell hs.1).1 _ _ hlt]; exact r2
      clear hp
      go_simp
      with_reducible refine hK9 _ ?_
      exact ⟨hs.1, fun h => by
        obtain ⟨b, d, h1, h2, h3, h4⟩ := hs.2.1 (by simpa [setL] using h)
        exact ⟨b, d, by simpa [updV] using h1, h2, h3, h4⟩, fun h => by
        obtain ⟨h1, h2⟩ := hs.2.2 (by simpa [setL] using h)
        exact ⟨by simpa [setL] using h1, by simpa [updV] using h2⟩⟩
    · clear hp
      go_simp
      have h12 : L 12 = false := by
        cases h : L 12 with
        | false => rfl
        | true => have := (hs.2.2 h).1; rw [hl] at this; cases this
      refine (HM.out w9 (HF.out.below hs.1)).mono ?_
      rintro e9 w8 ⟨u, rfl, ho, hb8⟩
      rw [HMM.out] at ho
      obtain ⟨b, d, rfl, _, hbn, hf8, hnw⟩ := own_isFldsB ho
      rw [← HMM.out]
      with_reducible refine hK9 _ _ ?_
      exact ⟨hs.1.trans (hb8.mono hs.1.size), fun _ => ⟨b, d, by simp [updV, *], hbn, hf8, fun ad had => Nat.le_trans hs.1.size (hnw ad had)⟩, fun h => by simp [setL, h12] at h⟩
    · clear hp
      go_simp
      with_reducible refine hK9 _ ?_
      exact ⟨hs.1, fun h => by
        obtain ⟨b, d, h1, h2, h3, h4⟩ := hs.2.1 (by simpa [setL] using h)
        exact ⟨b, d, by simpa [updV] using h1, h2, h3, h4⟩, fun h => by
        obtain ⟨h1, h2⟩ := hs.2.2 (by simpa [setL] using h)
        exact ⟨by simpa [setL] using h1, by simpa [updV] using h2⟩⟩
    · have s3 : w9.cell? ⟨bM, 3, none⟩ = some (.string bb) := by rw [(bcell hs.1).1 _ _ hlt]; exact r3
      clear hp
      go_simp
      with_reducible refine hK9 _ ?_
      exact ⟨hs.1, fun h => by
        obtain ⟨b, d, h1, h2, h3, h4⟩ := hs.2.1 (by simpa [setL] using h)
        exact ⟨b, d, by simpa [updV] using h1, h2, h3, h4⟩, fun h => by
        obtain ⟨h1, h2⟩ := hs.2.2 (by simpa [setL] using h)
        exact ⟨by simpa [setL] using h1, by simpa [updV] using h2⟩⟩
    · clear hp
      go_simp
      with_reducible refine hK9 _ ?_
      exact ⟨hs.1, fun h => by
        obtain ⟨b, d, h1, h2, h3, h4⟩ := hs.2.1 (by simpa [setL] using h)
        exact ⟨b, d, by simpa [updV] using h1, h2, h3, h4⟩, fun h => by
        obtain ⟨h1, h2⟩ := hs.2.2 (by simpa [setL] using h)
        exact ⟨by simpa [setL] using h1, by simpa [updV] using h2⟩⟩
    · have s4 : w9.cell? ⟨bM, 4, none⟩ = some (.int .i64 kk) := by rw [(bcell hs.1).1 _ _ hlt]; exact r4
      clear hp
      go_simp
      with_reducible refine hK9 _ ?_
      exact ⟨hs.1, fun h => by
        obtain ⟨b, d, h1, h2, h3, h4⟩ := hs.2.1 (by simpa [setL] using h)
        exact ⟨b, d, by simpa [updV] using h1, h2, h3, h4⟩, fun h => by
        obtain ⟨h1, h2⟩ := hs.2.2 (by simpa [setL] using h)
        exact ⟨by simpa [setL] using h1, by simpa [updV] using h2⟩⟩
    · have h7 : L 7 = true := allL_mem hp 7 (by decide +kernel)
      obtain ⟨b, d, hx7, hbn7, hf7, hnb7⟩ := hs.2.1 h7
      clear hp
      rw [hx7] at hK9 ⊢
      go_simp
      with_reducible refine hK9 _ _ ?_
      exact ⟨hs.1, fun _ => ⟨b, d, by simpa [updV] using hx7, hbn7, hf7, hnb7⟩, fun _ => ⟨by simpa [setL] using h7, by simp [updV, hx7]⟩⟩
  intro L x w9 hS hL
  have hs : Below w1.heap.size w1 w9 ∧ (L 7 = true → ∃ b d, x 7 = .slice b m d ∧ (b = none → d = 0 ∧ FF = []) ∧ IsFlds w9 b d FF ∧ (∀ ad, b = some ad → w1.heap.size ≤ ad.block)) ∧ (L 12 = true → L 7 = true ∧ x 12 = .agg #[.string mm, .string tt, x 7, .string bb, .int .i64 kk]) := hS
  obtain ⟨b, d, hx7, hbn7, hf7, hnb7⟩ := hs.2.1 (hL 7 (by decide))
  have hx12 := (hs.2.2 (hL 12 (by decide))).2
  have hb9 := hs.1
  clear hS hL hs
  simp only [actMix, pickV, List.tail_cons, List.headD_cons, Act.put, List.setIfInBounds_toArray, List.set_cons_zero, List.set_cons_succ, List.replicate_succ, List.replicate_zero, List.drop_succ_cons, List.drop_zero, List.take_succ_cons, List.take_zero]
  rw [hx7] at hx12 ⊢
  rw [hx12]
  have Q := RR.out.below hb9
  have HB9 := Lib.hid (HL1.out.trans (hb9.mono HL1.out.size))
  have HF9 := Lib.hid hf7
  have HBN := Lib.hid hbn7
  have z0 := Q.free 0
  have z1 := Q.free 1
  have z2 := Q.free 2
  have z3 := Q.free 3
  have z4 := Q.free 4
  have p0 : w9.cell? ⟨bR, 0, none⟩ = some (.string ⟨#[]⟩) := Q.cell 0
  have p1 : w9.cell? ⟨bR, 1, none⟩ = some (.string ⟨#[]⟩) := Q.cell 1
  have p2 : w9.cell? ⟨bR, 2, none⟩ = some (.slice none 0 0) := Q.cell 2
  have p3 : w9.cell? ⟨bR, 3, none⟩ = some (.string ⟨#[]⟩) := Q.cell 3
  have p4 : w9.cell? ⟨bR, 4, none⟩ = some (.int .i64 0) := Q.cell 4
  have HNB : Hid (∀ ad, b = some ad → ¬ ad.block = bR) := fun ad had => by have := hnb7 ad had; have := RR.out.lt; omega
  clear hx7 hx12 hf7 hnb7 hb9 Q hbn7
  go_wp2_with fail
  refine bodyPost_ret (v := .agg #[.string mm, .string tt, .slice b m d, .string bb, .int .i64 kk]) (by simp [results, Tryz.results17, go_sem, p0, p1, p2, p3, p4]) rfl ⟨b, d, by rw [HMM.out], HBN.out, ?_⟩
  have h5 := own_five bR _ HB9.out hbR0 (.string mm) (.string tt) (.slice b m d) (.string bb) (.int .i64 kk)
  exact ⟨isFlds_keepR HF9.out h5.2 HNB.out, h5.1⟩
set_option maxRecDepth 100000 in
set_option maxHeartbeats 8000000 in
theorem asks14 (mm tt bb : ByteArray) (kk : Int) (a : Option Addr) (c : Nat) (fs : List Fld) (hfl : fs.length ≤ 9223372036854775807) (w : World) (hf : IsFlds w a c fs) :
    Calls Tryz.prog 14 #[.agg #[.string mm, .string tt, .slice a fs.length c, .string bb, .int .i64 kk]] w fun e w' => ∃ b d, e = .returned (.agg #[.string (cutS mm 20), .string (cutS tt 40), .slice b (fewF fs 8).length d, .string (cutS bb 60), .int .i64 kk]) ∧ (b = none → d = 0 ∧ (fewF fs 8) = []) ∧ IsFlds w' b d ((fewF fs 8)) ∧ Below w.heap.size w w' := by
  have HM : Hid (∀ W, IsFlds W a c fs → Calls Tryz.prog 9 #[.slice a fs.length c, .int .i64 8] W fun e w' => ∃ u, e = .returned u ∧ w'.ownsRow W.heap.size 53 2 u (fewF fs 8).length (cellsF (fewF fs 8)) ∧ Below W.heap.size W w') := fun W h => few39 a c fs 8 (by decide) hfl W h
  have HC1 := Lib.hid (fun W => cut11 mm 20 W)
  have HC2 := Lib.hid (fun W => cut11 tt 40 W)
  have HC3 := Lib.hid (fun W => cut11 bb 60 W)
  generalize cutS mm 20 = m2 at *
  generalize cutS tt 40 = t2 at *
  generalize cutS bb 60 = b2 at *
  clear hfl
  obtain ⟨FF, hFF⟩ : ∃ X, X = (fewF fs 8) := ⟨_, rfl⟩
  obtain ⟨m, hm⟩ : ∃ m, m = FF.length := ⟨_, rfl⟩
  rw [← hFF] at HM ⊢
  obtain ⟨n, hn⟩ : ∃ n, n = fs.length := ⟨_, rfl⟩
  rw [← hn] at HM ⊢
  have HMM := Lib.hid hm
  have R0 := (Row.new w 39 #[.string mm, .string tt, .slice a n c, .string bb, .int .i64 kk]).alloc (.cells #[.string ⟨#[]⟩, .string ⟨#[]⟩, .slice none 0 0, .string ⟨#[]⟩, .int .i64 0] 39)
  have R1 := Row.new (w.alloc (.cells #[.string mm, .string tt, .slice a n c, .string bb, .int .i64 kk] 39)) 39 #[.string ⟨#[]⟩, .string ⟨#[]⟩, .slice none 0 0, .string ⟨#[]⟩, .int .i64 0]
  rw [show (w.alloc (.cells #[.string mm, .string tt, .slice a n c, .string bb, .int .i64 kk] 39)).heap.size = w.heap.size + 1 by simp] at R1
  have L1 := (below_alloc w (.cells #[.string mm, .string tt, .slice a n c, .string bb, .int .i64 kk] 39)).alloc (by simp) (.cells #[.string ⟨#[]⟩, .string ⟨#[]⟩, .slice none 0 0, .string ⟨#[]⟩, .int .i64 0] 39)
  have HF := Lib.hid (hf.below L1)
  clear hf hFF hn
  go_enter Tryz.func14, Tryz.ntmps14
  go_upto_region 1 with fail
  obtain ⟨bM, hbM⟩ : ∃ bM, bM = w.heap.size := ⟨_, rfl⟩
  obtain ⟨bR, hbR⟩ : ∃ bR, bR = w.heap.size + 1 := ⟨_, rfl⟩
  have hbR0 : w.heap.size ≤ bR := by omega
  rw [← hbM] at R0
  rw [← hbR] at R1 ⊢
  rw [← hbM]
  generalize World.alloc (World.alloc w _) _ = w1 at *
  have HL1 := Lib.hid L1
  have r0 : w1.cell? ⟨bM, 0, none⟩ = some (.string mm) := R0.cell 0
  have r1 : w1.cell? ⟨bM, 1, none⟩ = some (.string tt) := R0.cell 1
  have r2 : w1.cell? ⟨bM, 2, none⟩ = some (.slice a n c) := R0.cell 2
  have r3 : w1.cell? ⟨bM, 3, none⟩ = some (.string bb) := R0.cell 3
  have r4 : w1.cell? ⟨bM, 4, none⟩ = some (.int .i64 kk) := R0.cell 4
  have hlt := R0.lt
  have RR := Lib.hid R1
  clear L1 R0 R1 hbM hbR hm
  rw [← HMM.out] at HM
  refine region_mixt 15 [some (.pointer (some ⟨bM, 0, none⟩)), some (.string mm), some (.string m2), some (.pointer (some ⟨bM, 1, none⟩)), some (.string tt), some (.string t2), some (.pointer (some ⟨bM, 2, none⟩)), some (.slice a n c), none, some (.pointer (some ⟨bM, 3, none⟩)), some (.string bb), some (.string b2), some (.pointer (some ⟨bM, 4, none⟩)), some (.int .i64 kk), none]
    [[false, false, false, false, false, false, false, false, false, false, false, false, false, false, false], [true, false, false, false, false, false, false, false, false, false, false, false, false, false, false], [false, true, false, false, false, false, false, false, false, false, false, false, false, false, false], [false, false, false, false, false, false, false, false, false, false, false, false, false, false, false], [false, false, false, true, false, false, false, false, false, false, false, false, false, false, false], [false, false, true, false, true, false, false, false, false, false, false, false, false, false, false], [false, false, false, false, false, false, false, false, false, false, false, false, false, false, false], [false, false, false, false, false, false, true, false, false, false, false, false, false, false, false], [false, false, false, false, false, true, false, true, false, false, false, false, false, false, false], [false, false, false, false, false, false, false, false, false, false, false, false, false, false, false], [false, false, false, false, false, false, false, false, false, true, false, false, false, false, false], [false, false, false, false, false, false, false, false, true, false, true, false, false, false, false], [false, false, false, false, false, false, false, false, false, false, false, false, false, false, false], [false, false, false, false, false, false, false, false, false, false, false, false, true, false, false], [false, false, true, false, false, true, false, false, true, false, false, true, false, true, false]]
    (fun L x w9 => Below w1.heap.size w1 w9 ∧ (L 8 = true → ∃ b d, x 8 = .slice b m d ∧ (b = none → d = 0 ∧ FF = []) ∧ IsFlds w9 b d FF ∧ (∀ ad, b = some ad → w1.heap.size ≤ ad.block)) ∧ (L 14 = true → L 8 = true ∧ x 14 = .agg #[.string m2, .string t2, x 8, .string b2, .int .i64 kk]))
    (by kernel_rfl) (by kernel_rfl) (by kernel_rfl) (by kernel_rfl) (by kernel_rfl) (by decide) ?_ ?_ ?_
  · intro _
    exact ⟨⟨rfl, rfl, rfl, Nat.le_refl _, fun _ _ => rfl⟩, (fun h => by cases h), (fun h => by cases h)⟩
  · simp only [List.take_succ_cons, List.take_zero]
    refine ⟨?_, ?_, ?_, ?_, ?_, ?_, ?_, ?_, ?_, ?_, ?_, ?_, ?_, ?_, ?_, trivial⟩
    all_goals
      intro L x w9 hS hl hp K9 hK9
      have hs : Below w1.heap.size w1 w9 ∧ (L 8 = true → ∃ b d, x 8 = .slice b m d ∧ (b = none → d = 0 ∧ FF = []) ∧ IsFlds w9 b d FF ∧ (∀ ad, b = some ad → w1.heap.size ≤ ad.block)) ∧ (L 14 = true → L 8 = true ∧ x 14 = .agg #[.string m2, .string t2, x 8, .string b2, .int .i64 kk]) := hS
      clear hS
      replace hK9 := hK9.out
      simp only [actMix, pickV, List.tail_cons, List.headD_cons, Act.put, List.setIfInBounds_toArray, List.set_cons_zero, List.set_cons_succ] at hK9 ⊢
    · clear hp
      go_simp
      with_reducible refine hK9 _ ?_
      exact ⟨hs.1, fun h => by
        obtain ⟨b, d, h1, h2, h3, h4⟩ := hs.2.1 (by simpa [setL] using h)
        exact ⟨b, d, by simpa [updV] using h1, h2, h3, h4⟩, fun h => by
        obtain ⟨h1, h2⟩ := hs.2.2 (by simpa [setL] using h)
        exact ⟨by simpa [setL] using h1, by simpa [updV] using h2⟩⟩
    · have s0 : w9.cell? ⟨bM, 0, none⟩ = some (.string mm) := by rw [(bcell hs.1).1 _ _ hlt]; exact r0
      clear hp
      go_simp
      with_reducible refine hK9 _ ?_
      exact ⟨hs.1, fun h => by
        obtain ⟨b, d, h1, h2, h3, h4⟩ := hs.2.1 (by simpa [setL] using h)
        exact ⟨b, d, by simpa [updV] using h1, h2, h3, h4⟩, fun h => by
        obtain ⟨h1, h2⟩ := hs.2.2 (by simpa [setL] using h)
        exact ⟨by simpa [setL] using h1, by simpa [updV] using h2⟩⟩
    · clear hp
      go_simp
      refine (HC1.out w9).mono ?_
      rintro e9 w8 ⟨rfl, rfl⟩
      with_reducible refine hK9 _ ?_
      exact ⟨hs.1, fun h => by
        obtain ⟨b, d, h1, h2, h3, h4⟩ := hs.2.1 (by simpa [setL] using h)
        exact ⟨b, d, by simpa [updV] using h1, h2, h3, h4⟩, fun h => by
        obtain ⟨h1, h2⟩ := hs.2.2 (by simpa [setL] using h)
        exact ⟨by simpa [setL] using h1, by simpa [updV] using h2⟩⟩
    · clear hp
      go_simp
      with_reducible refine hK9 _ ?_
      exact ⟨hs.1, fun h => by
        obtain ⟨b, d, h1, h2, h3, h4⟩ := hs.2.1 (by simpa [setL] using h)
        exact ⟨b, d, by simpa [updV] using h1, h2, h3, h4⟩, fun h => by
        obtain ⟨h1, h2⟩ := hs.2.2 (by simpa [setL] using h)
        exact ⟨by simpa [setL] using h1, by simpa [updV] using h2⟩⟩
    · have s1 : w9.cell? ⟨bM, 1, none⟩ = some (.string tt) := by rw [(bcell hs.1).1 _ _ hlt]; exact r1
      clear hp
      go_simp
      with_reducible refine hK9 _ ?_
      exact ⟨hs.1, fun h => by
        obtain ⟨b, d, h1, h2, h3, h4⟩ := hs.2.1 (by simpa [setL] using h)
        exact ⟨b, d, by simpa [updV] using h1, h2, h3, h4⟩, fun h => by
        obtain ⟨h1, h2⟩ := hs.2.2 (by simpa [setL] using h)
        exact ⟨by simpa [setL] using h1, by simpa [updV] using h2⟩⟩
    · clear hp
      go_simp
      refine (HC2.out w9).mono ?_
      rintro e9 w8 ⟨rfl, rfl⟩
      with_reducible refine hK9 _ ?_
      exact ⟨hs.1, fun h => by
        obtain ⟨b, d, h1, h2, h3, h4⟩ := hs.2.1 (by simpa [setL] using h)
        exact ⟨b, d, by simpa [updV] using h1, h2, h3, h4⟩, fun h => by
        obtain ⟨h1, h2⟩ := hs.2.2 (by simpa [setL] using h)
        exact ⟨by simpa [setL] using h1, by simpa [updV] using h2⟩⟩
    · clear hp
      go_simp
      with_reducible refine hK9 _ ?_
      exact ⟨hs.1, fun h => by
        obtain ⟨b, d, h1, h2, h3, h4⟩ := hs.2.1 (by simpa [setL] using h)
        exact ⟨b, d, by simpa [updV] using h1, h2, h3, h4⟩, fun h => by
        obtain ⟨h1, h2⟩ := hs.2.2 (by simpa [setL] using h)
        exact ⟨by simpa [setL] using h1, by simpa [updV] using h2⟩⟩
    · have s2 : w9.cell? ⟨bM, 2, none⟩ = some (.slice a n c) := by rw [(bcell hs.1).1 _ _ hlt]; exact r2
      clear hp
      go_simp
      with_reducible refine hK9 _ ?_
      exact ⟨hs.1, fun h => by
        obtain ⟨b, d, h1, h2, h3, h4⟩ := hs.2.1 (by simpa [setL] using h)
        exact ⟨b, d, by simpa [updV] using h1, h2, h3, h4⟩, fun h => by
        obtain ⟨h1, h2⟩ := hs.2.2 (by simpa [setL] using h)
        exact ⟨by simpa [setL] using h1, by simpa [updV] using h2⟩⟩
    · clear hp
      go_simp
      have h12 : L 14 = false := by
        cases h : L 14 with
        | false => rfl
        | true => have := (hs.2.2 h).1; rw [hl] at this; cases this
      refine (HM.out w9 (HF.out.below hs.1)).mono ?_
      rintro e9 w8 ⟨u, rfl, ho, hb8⟩
      rw [HMM.out] at ho
      obtain ⟨b, d, rfl, _, hbn, hf8, hnw⟩ := own_isFldsB ho
      rw [← HMM.out]
      with_reducible refine hK9 _ _ ?_
      exact ⟨hs.1.trans (hb8.mono hs.1.size), fun _ => ⟨b, d, by simp [updV, *], hbn, hf8, fun ad had => Nat.le_trans hs.1.size (hnw ad had)⟩, fun h => by simp [setL, h12] at h⟩
    · clear hp
      go_simp
      with_reducible refine hK9 _ ?_
      exact ⟨hs.1, fun h => by
        obtain ⟨b, d, h1, h2, h3, h4⟩ := hs.2.1 (by simpa [setL] using h)
        exact ⟨b, d, by simpa [updV] using h1, h2, h3, h4⟩, fun h => by
        obtain ⟨h1, h2⟩ := hs.2.2 (by simpa [setL] using h)
        exact ⟨by simpa [setL] using h1, by simpa [updV] using h2⟩⟩
    · have s3 : w9.cell? ⟨bM, 3, none⟩ = some (.string bb) := by rw [(bcell hs.1).1 _ _ hlt]; exact r3
      clear hp
      go_simp
      with_reducible refine hK9 _ ?_
      exact ⟨hs.1, fun h => by
        obtain ⟨b, d, h1, h2, h3, h4⟩ := hs.2.1 (by simpa [setL] using h)
        exact ⟨b, d, by simpa [updV] using h1, h2, h3, h4⟩, fun h => by
        obtain ⟨h1, h2⟩ := hs.2.2 (by simpa [setL] using h)
        exact ⟨by simpa [setL] using h1, by simpa [updV] using h2⟩⟩
    · clear hp
      go_simp
      refine (HC3.out w9).mono ?_
      rintro e9 w8 ⟨rfl, rfl⟩
      with_reducible refine hK9 _ ?_
      exact ⟨hs.1, fun h => by
        obtain ⟨b, d, h1, h2, h3, h4⟩ := hs.2.1 (by simpa [setL] using h)
        exact ⟨b, d, by simpa [updV] using h1, h2, h3, h4⟩, fun h => by
        obtain ⟨h1, h2⟩ := hs.2.2 (by simpa [setL] using h)
        exact ⟨by simpa [setL] using h1, by simpa [updV] using h2⟩⟩
    · clear hp
      go_simp
      with_reducible refine hK9 _ ?_
      exact ⟨hs.1, fun h => by
        obtain ⟨b, d, h1, h2, h3, h4⟩ := hs.2.1 (by simpa [setL] using h)
        exact ⟨b, d, by simpa [updV] using h1, h2, h3, h4⟩, fun h => by
        obtain ⟨h1, h2⟩ := hs.2.2 (by simpa [setL] using h)
        exact ⟨by simpa [setL] using h1, by simpa [updV] using h2⟩⟩
    · have s4 : w9.cell? ⟨bM, 4, none⟩ = some (.int .i64 kk) := by rw [(bcell hs.1).1 _ _ hlt]; exact r4
      clear hp
      go_simp
      with_reducible refine hK9 _ ?_
      exact ⟨hs.1, fun h => by
        obtain ⟨b, d, h1, h2, h3, h4⟩ := hs.2.1 (by simpa [setL] using h)
        exact ⟨b, d, by simpa [updV] using h1, h2, h3, h4⟩, fun h => by
        obtain ⟨h1, h2⟩ := hs.2.2 (by simpa [setL] using h)
        exact ⟨by simpa [setL] using h1, by simpa [updV] using h2⟩⟩
    · have h7 : L 8 = true := allL_mem hp 8 (by decide +kernel)
      obtain ⟨b, d, hx7, hbn7, hf7, hnb7⟩ := hs.2.1 h7
      clear hp
      rw [hx7] at hK9 ⊢
      go_simp
      with_reducible refine hK9 _ _ ?_
      exact ⟨hs.1, fun _ => ⟨b, d, by simpa [updV] using hx7, hbn7, hf7, hnb7⟩, fun _ => ⟨by simpa [setL] using h7, by simp [updV, hx7]⟩⟩
  intro L x w9 hS hL
  have hs : Below w1.heap.size w1 w9 ∧ (L 8 = true → ∃ b d, x 8 = .slice b m d ∧ (b = none → d = 0 ∧ FF = []) ∧ IsFlds w9 b d FF ∧ (∀ ad, b = some ad → w1.heap.size ≤ ad.block)) ∧ (L 14 = true → L 8 = true ∧ x 14 = .agg #[.string m2, .string t2, x 8, .string b2, .int .i64 kk]) := hS
  obtain ⟨b, d, hx7, hbn7, hf7, hnb7⟩ := hs.2.1 (hL 8 (by decide))
  have hx12 := (hs.2.2 (hL 14 (by decide))).2
  have hb9 := hs.1
  clear hS hL hs
  simp only [actMix, pickV, List.tail_cons, List.headD_cons, Act.put, List.setIfInBounds_toArray, List.set_cons_zero, List.set_cons_succ, List.replicate_succ, List.replicate_zero, List.drop_succ_cons, List.drop_zero, List.take_succ_cons, List.take_zero]
  rw [hx7] at hx12 ⊢
  rw [hx12]
  have Q := RR.out.below hb9
  have HB9 := Lib.hid (HL1.out.trans (hb9.mono HL1.out.size))
  have HF9 := Lib.hid hf7
  have HBN := Lib.hid hbn7
  have z0 := Q.free 0
  have z1 := Q.free 1
  have z2 := Q.free 2
  have z3 := Q.free 3
  have z4 := Q.free 4
  have p0 : w9.cell? ⟨bR, 0, none⟩ = some (.string ⟨#[]⟩) := Q.cell 0
  have p1 : w9.cell? ⟨bR, 1, none⟩ = some (.string ⟨#[]⟩) := Q.cell 1
  have p2 : w9.cell? ⟨bR, 2, none⟩ = some (.slice none 0 0) := Q.cell 2
  have p3 : w9.cell? ⟨bR, 3, none⟩ = some (.string ⟨#[]⟩) := Q.cell 3
  have p4 : w9.cell? ⟨bR, 4, none⟩ = some (.int .i64 0) := Q.cell 4
  have HNB : Hid (∀ ad, b = some ad → ¬ ad.block = bR) := fun ad had => by have := hnb7 ad had; have := RR.out.lt; omega
  clear hx7 hx12 hf7 hnb7 hb9 Q hbn7
  go_wp2_with fail
  refine bodyPost_ret (v := .agg #[.string m2, .string t2, .slice b m d, .string b2, .int .i64 kk]) (by simp [results, Tryz.results14, go_sem, p0, p1, p2, p3, p4]) rfl ⟨b, d, by rw [HMM.out], HBN.out, ?_⟩
  have h5 := own_five bR _ HB9.out hbR0 (.string m2) (.string t2) (.slice b m d) (.string b2) (.int .i64 kk)
  exact ⟨isFlds_keepR HF9.out h5.2 HNB.out, h5.1⟩
end Go.Proofs.YtbbphklhnngjmaaGreatDoor

/- rewrite: Own at 503, the fixed facts. -/
namespace Go.Proofs.YtbbphklhnngjmaaGreatDoor
open Go.RowKit

set_option maxRecDepth 100000 in
set_option maxHeartbeats 4000000 in
theorem rown42 (w : World) (hP : Pow w) (hR : Reas w) :
    Calls Tryz.prog 42 #[.int .i64 503, .string ⟨#[71, 69, 84]⟩, .bool true] w fun e w' => ∃ b d, e = .returned (.agg #[.int .i64 503, .string (bs rea503), .slice b 3 d, .string (bs bod503), .int .i64 1]) ∧ Below w.heap.size w w' := by
  have HO := Lib.hid (fun W h1 h2 => rown35 W h1 h2)
  have HC := Lib.hid (fun r bb a d ha W hf => closing65 503 1 r bb a d [ctF, clF] true (by decide) ha W hf)
  rw [show (closeF true [ctF, clF]).length = 3 from rfl, show [ctF, clF].length = 2 from rfl] at HC
  generalize bs rea503 = R at *
  generalize bs bod503 = X at *
  have R0 := Row.new w 33 #[.int .i64 0, .string ⟨#[]⟩, .slice none 0 0, .string ⟨#[]⟩, .int .i64 0]
  have L0 := below_alloc w (.cells #[.int .i64 0, .string ⟨#[]⟩, .slice none 0 0, .string ⟨#[]⟩, .int .i64 0] 33)
  have HP := Lib.hid (hP.below L0)
  have HR := Lib.hid (hR.below L0)
  clear hP hR
  go_enter Tryz.func42, Tryz.ntmps42
  go_wp2_with fail
  obtain ⟨b0, hb0⟩ : ∃ b0, b0 = w.heap.size := ⟨_, rfl⟩
  have hle : w.heap.size ≤ b0 := Nat.le_of_eq hb0.symm
  have HLE := Lib.hid hle
  rw [← hb0] at R0 ⊢
  generalize World.alloc w _ = w0 at *
  have RR0 := Lib.hid R0
  have LL0 := Lib.hid L0
  clear R0 L0 hb0 hle
  with_reducible refine (HO.out w0 HP.out HR.out).mono ?_
  rintro e w1 ⟨g, rfl, hg, hf, hb1⟩
  have RR1 := Lib.hid (RR0.out.below hb1)
  have LL1 := Lib.hid (LL0.out.trans (hb1.mono LL0.out.size))
  have R2 := Row.new w1 33 #[.int .i64 503, .string R, .slice (some ⟨g, 0, none⟩) 2 2, .string X, .int .i64 1]
  have L2 := below_alloc w1 (.cells #[.int .i64 503, .string R, .slice (some ⟨g, 0, none⟩) 2 2, .string X, .int .i64 1] 33)
  have F2 := Lib.hid (hf.below L2)
  have RR2 := Lib.hid (RR1.out.below L2)
  have LL2 := Lib.hid (LL1.out.trans (L2.mono LL1.out.size))
  clear hf hb1 HP HR RR0 LL0 hg HO RR1 LL1 L2
  go_upto_region 2 with fail
  obtain ⟨b1, hb1⟩ : ∃ b1, b1 = w1.heap.size := ⟨_, rfl⟩
  rw [← hb1] at R2 ⊢
  generalize World.alloc w1 _ = w2 at *
  have r0 := R2.cell 0
  have r1 := R2.cell 1
  have r2 := R2.cell 2
  have r3 := R2.cell 3
  have r4 := R2.cell 4
  simp only [List.getElem?_toArray, List.getElem?_cons_zero, List.getElem?_cons_succ] at r0 r1 r2 r3 r4
  have HC2 := Lib.hid (HC.out R X (some ⟨g, 0, none⟩) 2 (fun h => by cases h) w2 F2.out)
  clear R2 hb1 HC F2
  go_wp2_with fail
  with_reducible refine HC2.out.mono ?_
  rintro e w3 ⟨b, d', rfl, _, _, hb3⟩
  have RR3 := RR2.out.below hb3
  have LL3 := Lib.hid (LL2.out.trans (hb3.mono LL2.out.size))
  have z0 := RR3.free 0
  have z1 := RR3.free 1
  have z2 := RR3.free 2
  have z3 := RR3.free 3
  have z4 := RR3.free 4
  have p0 := RR3.cell 0
  have p1 := RR3.cell 1
  have p2 := RR3.cell 2
  have p3 := RR3.cell 3
  have p4 := RR3.cell 4
  simp only [List.getElem?_toArray, List.getElem?_cons_zero, List.getElem?_cons_succ] at p0 p1 p2 p3 p4
  clear hb3 RR3 HC2 RR2 LL2
  go_wp2_with fail
  refine bodyPost_ret (v := .agg #[.int .i64 503, .string R, .slice b 3 d', .string X, .int .i64 1]) (by simp [results, Tryz.results42, go_sem, p0, p1, p2, p3, p4]) rfl ⟨b, d', rfl, ?_⟩
  exact (own_five b0 _ LL3.out HLE.out (.int .i64 503) (.string R) (.slice b 3 d') (.string X) (.int .i64 1)).1
def awF : List Fld := [([67, 111, 110, 110, 101, 99, 116, 105, 111, 110], [99, 108, 111, 115, 101, 44, 32, 88, 45, 65]), ([88, 45, 65], [49]), ([72, 111, 115, 116], [97])]
def awG : List Fld := [([72, 111, 115, 116], [97])]
theorem awF_hops : hopsR (bsOf (tokF connB awF)) awF = awG := by decide +kernel
theorem awF_sum : sumS (allB connB awF) ≤ 900000000 := by decide +kernel
set_option maxRecDepth 100000 in
set_option maxHeartbeats 4000000 in
theorem awake13 (w : World) (hw : LaidR w) :
    Calls Tryz.prog 13 #[] w fun e w' => e = .returned (.bool true) ∧ Below w.heap.size w w' := by
  have F0 : IsFlds (w.alloc (.cells #[.string ⟨#[67, 111, 110, 110, 101, 99, 116, 105, 111, 110]⟩, .string ⟨#[99, 108, 111, 115, 101, 44, 32, 88, 45, 65]⟩, .string ⟨#[88, 45, 65]⟩, .string ⟨#[49]⟩, .string ⟨#[72, 111, 115, 116]⟩, .string ⟨#[97]⟩] 62)) (some ⟨w.heap.size, 0, none⟩) 3 awF := isFlds_new3R w [67, 111, 110, 110, 101, 99, 116, 105, 111, 110] [99, 108, 111, 115, 101, 44, 32, 88, 45, 65] [88, 45, 65] [49] [72, 111, 115, 116] [97] 62
  have L0 := below_alloc w (.cells #[.string ⟨#[67, 111, 110, 110, 101, 99, 116, 105, 111, 110]⟩, .string ⟨#[99, 108, 111, 115, 101, 44, 32, 88, 45, 65]⟩, .string ⟨#[88, 45, 65]⟩, .string ⟨#[49]⟩, .string ⟨#[72, 111, 115, 116]⟩, .string ⟨#[97]⟩] 62)
  have HH := Lib.hid (fun A W hM hf => hops41 (some A) 3 awF (by decide) (fun h => by cases h) (fun f hf => by simp only [awF, List.mem_cons, List.not_mem_nil, or_false] at hf; rcases hf with rfl | rfl | rfl <;> exact ⟨by decide, by decide⟩) awF_sum _ awF_hops.symm W hM hf)
  rw [show awF.length = 3 from rfl, show awG.length = 1 from rfl] at HH
  have HO := Lib.hid (fun W h1 h2 => rown42 W h1 h2)
  have HW := Lib.hid (hw.below L0)
  have F00 := Lib.hid F0
  have LL0 := Lib.hid L0
  generalize bs rea503 = R at *
  generalize bs bod503 = X at *
  clear hw F0 L0
  go_enter Tryz.func13, Tryz.ntmps13
  go_wp2_with fail
  obtain ⟨b0, hb0⟩ : ∃ b0, b0 = w.heap.size := ⟨_, rfl⟩
  rw [← hb0] at F00 ⊢
  generalize World.alloc w _ = w0 at *
  clear hb0
  with_reducible refine (HH.out ⟨b0, 0, none⟩ w0 HW.out.m F00.out).mono ?_
  rintro e w1 ⟨b, d, rfl, _, hf1, hb1⟩
  obtain h0 | ⟨bk, o, rfl, hbk, hc, hcell⟩ := hf1
  · cases h0
  obtain ⟨c1, _⟩ := hcell 0 _ rfl
  have HC1 := Lib.hid c1
  have W1 := Lib.hid (HW.out.below hb1)
  have LL1 := Lib.hid (LL0.out.trans (hb1.mono LL0.out.size))
  have HBK := Lib.hid hbk
  have hc1 : 1 ≤ d := hc
  clear HH HW F00 LL0 hb1 hcell hbk hc c1
  go_wp2_with fail
  with_reducible refine (HO.out w1 W1.out.p W1.out.r).mono ?_
  rintro e w2 ⟨b2, d2, rfl, hb2⟩
  have R3 := Row.new w2 33 #[.int .i64 503, .string R, .slice b2 3 d2, .string X, .int .i64 1]
  have L3 := below_alloc w2 (.cells #[.int .i64 503, .string R, .slice b2 3 d2, .string X, .int .i64 1] 33)
  have c1 : (w2.alloc (.cells #[.int .i64 503, .string R, .slice b2 3 d2, .string X, .int .i64 1] 33)).cell? ⟨bk, o, none⟩ = some (.string ⟨#[72, 111, 115, 116]⟩) := by
    rw [(bcell L3).1 _ _ (Nat.lt_of_lt_of_le HBK.out hb2.size), (bcell hb2).1 _ _ HBK.out]
    exact HC1.out
  have LL3 := Lib.hid ((LL1.out.trans (hb2.mono LL1.out.size)).trans (L3.mono (Nat.le_trans LL1.out.size hb2.size)))
  clear hb2 LL1 HC1 HBK L3
  go_upto_region 3 with fail
  obtain ⟨b1, hb1⟩ : ∃ b1, b1 = w2.heap.size := ⟨_, rfl⟩
  rw [← hb1] at R3 ⊢
  generalize World.alloc w2 _ = w3 at *
  have r0 := R3.cell 0
  have r2 := R3.cell 2
  simp only [List.getElem?_toArray, List.getElem?_cons_zero, List.getElem?_cons_succ] at r0 r2
  clear R3 hb1
  go_wp2_with fail
  go_ret
  exact ⟨rfl, LL3.out⟩
end Go.Proofs.YtbbphklhnngjmaaGreatDoor

/- A machine over bytes that may come to an end: what it comes to, what it leaves, whatever the parts. -/
namespace Go.Proofs.YtbbphklhnngjmaaGreatDoor
open Go.RowKit

section
variable {σ : Type} (step : σ → UInt8 → σ) (fin : σ → Bool)
def mRun (s : σ) (l : List UInt8) : σ := l.foldl step s
/-- The bytes that are left once it is done. -/
def mLeft : σ → List UInt8 → List UInt8
  | _, [] => []
  | s, c :: l => if fin s = true then c :: l else mLeft (step s c) l
theorem mRun_nil (s : σ) : mRun step s [] = s := rfl
theorem mRun_cons (s : σ) (c : UInt8) (l : List UInt8) : mRun step s (c :: l) = mRun step (step s c) l := rfl
theorem mRun_app (s : σ) (a b : List UInt8) : mRun step s (a ++ b) = mRun step (mRun step s a) b := List.foldl_append ..
theorem mLeft_nil (s : σ) : mLeft step fin s [] = [] := rfl
theorem mLeft_fin (s : σ) (l : List UInt8) (h : fin s = true) : mLeft step fin s l = l := by
  cases l with
  | nil => rfl
  | cons c l => simp [mLeft, h]
theorem mLeft_cons (s : σ) (c : UInt8) (l : List UInt8) (h : fin s = false) : mLeft step fin s (c :: l) = mLeft step fin (step s c) l := by
  simp [mLeft, h]
theorem mLeft_suffix : ∀ (l : List UInt8) (s : σ), ∃ a, l = a ++ mLeft step fin s l
  | [], _ => ⟨[], rfl⟩
  | c :: l, s => by
    cases hd : fin s with
    | true => exact ⟨[], by rw [mLeft_fin step fin s _ hd]; rfl⟩
    | false =>
      rw [mLeft_cons step fin s c l hd]
      obtain ⟨a, ha⟩ := mLeft_suffix l (step s c)
      exact ⟨c :: a, by rw [List.cons_append, ← ha]⟩
theorem mLeft_drop (l : List UInt8) (s : σ) : l.drop (l.length - (mLeft step fin s l).length) = mLeft step fin s l := by
  obtain ⟨a, ha⟩ := mLeft_suffix step fin l s
  have hl := congrArg List.length ha
  rw [List.length_append] at hl
  have e : l.length - (mLeft step fin s l).length = a.length := by omega
  rw [e]
  conv => lhs; rw [ha]
  exact List.drop_left' rfl
variable (hst : ∀ s c, fin s = true → step s c = s)
include hst
theorem mRun_fin (s : σ) (h : fin s = true) : ∀ l, mRun step s l = s
  | [] => rfl
  | c :: l => by rw [mRun_cons, hst s c h]; exact mRun_fin s h l
theorem fin_before {s : σ} {l : List UInt8} (h : fin (mRun step s l) = false) : fin s = false := by
  cases hs : fin s with
  | false => rfl
  | true => rw [mRun_fin step fin hst s hs] at h; rw [hs] at h; cases h
/-- Bytes in two parts. -/
theorem mLeft_app : ∀ (a : List UInt8) (s : σ) (b : List UInt8), fin (mRun step s a) = false → mLeft step fin s (a ++ b) = mLeft step fin (mRun step s a) b
  | [], _, _, _ => rfl
  | c :: a, s, b, h => by
    rw [List.cons_append, mLeft_cons step fin s c (a ++ b) (fin_before step fin hst h)]
    exact mLeft_app a (step s c) b h
theorem mLeft_undone : ∀ (l : List UInt8) (s : σ), fin (mRun step s l) = false → mLeft step fin s l = []
  | [], _, _ => rfl
  | c :: l, s, h => by
    rw [mLeft_cons step fin s c l (fin_before step fin hst h)]
    exact mLeft_undone l _ h
end
end Go.Proofs.YtbbphklhnngjmaaGreatDoor

/- request: a head as a machine over bytes, beside the reference's reading by lines. -/
namespace Go.Proofs.YtbbphklhnngjmaaGreatDoor
open Go.RowKit

/-- A line at the head of bytes: a part of it (is its byte 13 there?), all of it, an error. -/
inductive LnR where
  | part (cur : List UInt8) (cr : Bool)
  | whole (s : List UInt8)
  | err (e : Int)
/-- The reference's reading of a line: cur came, of at most so many bytes. -/
def rlGo (most : Int) : List UInt8 → List UInt8 → LnR
  | cur, [] => .part cur false
  | cur, c :: r => if c = 10 then .err 2 else if c = 13 then (match r with
      | [] => .part cur true
      | d :: _ => if d = 10 then .whole cur else .err 2)
    else if most ≤ cur.length then .err 4 else rlGo most (cur ++ [c]) r
/-- Where a head stands: in a line (its first line, if it came; fields and their length; the line so far; its byte 13), whole, failed. -/
inductive HdS where
  | line (first : Option (List UInt8)) (fs : List Fld) (sz : Nat) (cur : List UInt8) (cr : Bool)
  | done (first : List UInt8) (fs : List Fld)
  | err (e : Int)
structure HdL where
  line : Int
  head : Int
  count : Int
/-- The bytes that the line may have. -/
def HdL.room (L : HdL) (fo : Option (List UInt8)) (sz : Nat) : Int := match fo with
  | none => max 0 L.line
  | some _ => max 0 L.head - sz
/-- A line's end. 'may': may the first line be? -/
def HdL.close (L : HdL) (may : List UInt8 → Bool) (fo : Option (List UInt8)) (fs : List Fld) (sz : Nat) (s : List UInt8) : HdS := match fo with
  | none => if may s = true then .line (some s) [] 0 [] false else .err 2
  | some f => if s = [] then .done f fs else if max 0 L.head < (sz + s.length + 2 : Nat) ∨ max 0 L.count ≤ fs.length then .err 4 else match parseL s with
    | none => .err 2
    | some g => .line (some f) (fs ++ [g]) (sz + s.length + 2) [] false
def HdL.step (L : HdL) (may : List UInt8 → Bool) : HdS → UInt8 → HdS
  | .line fo fs sz cur cr, c =>
    if cr = true then (if c = 10 then L.close may fo fs sz cur else .err 2)
    else if c = 10 then .err 2
    else if c = 13 then .line fo fs sz cur true
    else if L.room fo sz ≤ cur.length then .err 4 else .line fo fs sz (cur ++ [c]) false
  | .done f fs, _ => .done f fs
  | .err e, _ => .err e
def HdS.fin : HdS → Bool
  | .done _ _ => true
  | _ => false
def HdS.halt : HdS → Bool
  | .done _ _ => true
  | .err _ => true
  | _ => false
theorem hd_fin (L : HdL) (may : List UInt8 → Bool) (s : HdS) (c : UInt8) (h : s.fin = true) : L.step may s c = s := by
  cases s with
  | done f fs => rfl
  | _ => cases h
abbrev hdRun (L : HdL) (may : List UInt8 → Bool) (s : HdS) (l : List UInt8) : HdS := mRun (L.step may) s l
abbrev hdLeft (L : HdL) (may : List UInt8 → Bool) (s : HdS) (l : List UInt8) : List UInt8 := mLeft (L.step may) HdS.fin s l
def hd0 : HdS := .line none [] 0 [] false
theorem hdRun_err (L : HdL) (may : List UInt8 → Bool) (e : Int) : ∀ l, hdRun L may (.err e) l = .err e
  | [] => rfl
  | _ :: l => hdRun_err L may e l
/-- The machine over a line's bytes. -/
theorem run_line (L : HdL) (may : List UInt8 → Bool) (fo : Option (List UInt8)) (fs : List Fld) (sz : Nat) : ∀ (r cur : List UInt8),
    (∀ c2 cr, rlGo (L.room fo sz) cur r = .part c2 cr → hdRun L may (.line fo fs sz cur false) r = .line fo fs sz c2 cr)
    ∧ (∀ e, rlGo (L.room fo sz) cur r = .err e → hdRun L may (.line fo fs sz cur false) r = .err e)
    ∧ (∀ s, rlGo (L.room fo sz) cur r = .whole s → ∃ a t, r = a ++ 13 :: 10 :: t ∧ s = cur ++ a ∧ hdRun L may (.line fo fs sz cur false) (a ++ [13]) = .line fo fs sz s true)
  | [], cur => by
    refine ⟨fun c2 cr h => ?_, fun e h => ?_, fun s h => ?_⟩
    · simp only [rlGo] at h; injection h with e1 e2; subst e1 e2; rfl
    · simp only [rlGo] at h; cases h
    · simp only [rlGo] at h; cases h
  | c :: r, cur => by
    by_cases h10 : c = 10
    · have hs : L.step may (.line fo fs sz cur false) c = .err 2 := by simp [HdL.step, h10]
      refine ⟨fun c2 cr h => ?_, fun e h => ?_, fun s h => ?_⟩
      · simp [rlGo, h10] at h
      · simp only [rlGo, h10, if_true] at h
        injection h with e1
        subst e1
        show mRun _ _ _ = _
        rw [mRun_cons, hs]
        exact hdRun_err L may 2 r
      · simp [rlGo, h10] at h
    · by_cases h13 : c = 13
      · subst h13
        have hs : L.step may (.line fo fs sz cur false) 13 = .line fo fs sz cur true := by simp [HdL.step]
        match r with
        | [] =>
          refine ⟨fun c2 cr h => ?_, fun e h => ?_, fun s h => ?_⟩
          · simp only [rlGo, if_neg h10, if_true] at h
            injection h with e1 e2
            subst e1 e2
            show mRun _ _ _ = _
            rw [mRun_cons, hs]; rfl
          · simp only [rlGo, if_neg h10, if_true] at h; cases h
          · simp only [rlGo, if_neg h10, if_true] at h; cases h
        | d :: t =>
          by_cases hd : d = 10
          · subst hd
            refine ⟨fun c2 cr h => ?_, fun e h => ?_, fun s h => ?_⟩
            · simp only [rlGo, if_neg h10, if_true] at h; cases h
            · simp only [rlGo, if_neg h10, if_true] at h; cases h
            · simp only [rlGo, if_neg h10, if_true] at h
              injection h with e1
              subst e1
              exact ⟨[], t, rfl, by simp, hs⟩
          · have hs2 : L.step may (.line fo fs sz cur true) d = .err 2 := by simp [HdL.step, hd]
            refine ⟨fun c2 cr h => ?_, fun e h => ?_, fun s h => ?_⟩
            · simp only [rlGo, if_neg h10, if_true, if_neg hd] at h; cases h
            · simp only [rlGo, if_neg h10, if_true, if_neg hd] at h
              injection h with e1
              subst e1
              show mRun _ _ _ = _
              rw [mRun_cons, hs, mRun_cons, hs2]
              exact hdRun_err L may 2 t
            · simp only [rlGo, if_neg h10, if_true, if_neg hd] at h; cases h
      · by_cases hm : L.room fo sz ≤ cur.length
        · have hs : L.step may (.line fo fs sz cur false) c = .err 4 := by simp [HdL.step, h10, h13, hm]
          refine ⟨fun c2 cr h => ?_, fun e h => ?_, fun s h => ?_⟩
          · simp only [rlGo, if_neg h10, if_neg h13, if_pos hm] at h; cases h
          · simp only [rlGo, if_neg h10, if_neg h13, if_pos hm] at h
            injection h with e1
            subst e1
            show mRun _ _ _ = _
            rw [mRun_cons, hs]
            exact hdRun_err L may 4 r
          · simp only [rlGo, if_neg h10, if_neg h13, if_pos hm] at h; cases h
        · have hs : L.step may (.line fo fs sz cur false) c = .line fo fs sz (cur ++ [c]) false := by simp [HdL.step, h10, h13, hm]
          have hg : rlGo (L.room fo sz) cur (c :: r) = rlGo (L.room fo sz) (cur ++ [c]) r := by
            simp only [rlGo, if_neg h10, if_neg h13, if_neg hm]
          obtain ⟨i1, i2, i3⟩ := run_line L may fo fs sz r (cur ++ [c])
          rw [hg]
          refine ⟨fun c2 cr h => ?_, fun e h => ?_, fun s h => ?_⟩
          · show mRun _ _ _ = _
            rw [mRun_cons, hs]; exact i1 c2 cr h
          · show mRun _ _ _ = _
            rw [mRun_cons, hs]; exact i2 e h
          · obtain ⟨a, t, e1, e2, e3⟩ := i3 s h
            refine ⟨c :: a, t, by rw [e1]; rfl, by rw [e2]; simp, ?_⟩
            show mRun _ _ _ = _
            rw [List.cons_append, mRun_cons, hs]; exact e3
/-- Behind a whole line. -/
theorem run_whole {L : HdL} {may : List UInt8 → Bool} {fo : Option (List UInt8)} {fs : List Fld} {sz : Nat} {r s : List UInt8} (h : rlGo (L.room fo sz) [] r = .whole s) :
    ∃ t, r = s ++ 13 :: 10 :: t ∧ hdRun L may (.line fo fs sz [] false) r = hdRun L may (L.close may fo fs sz s) t ∧ hdLeft L may (.line fo fs sz [] false) r = hdLeft L may (L.close may fo fs sz s) t := by
  obtain ⟨a, t, e1, e2, e3⟩ := (run_line L may fo fs sz r []).2.2 s h
  rw [List.nil_append] at e2
  subst e2
  have e : r = (s ++ [13]) ++ 10 :: t := by rw [e1]; simp
  have hs : L.step may (.line fo fs sz s true) 10 = L.close may fo fs sz s := by simp [HdL.step]
  have e4 : mRun (L.step may) (.line fo fs sz [] false) (s ++ [13]) = .line fo fs sz s true := e3
  refine ⟨t, e1, ?_, ?_⟩
  · rw [e]
    show mRun _ _ _ = _
    rw [mRun_app, e4, mRun_cons, hs]
  · rw [e]
    show mLeft _ _ _ _ = _
    rw [mLeft_app _ _ (hd_fin L may) _ _ _ (by rw [e4]; rfl), e4, mLeft_cons _ _ _ _ _ rfl, hs]
end Go.Proofs.YtbbphklhnngjmaaGreatDoor

/- request: what the reference returns of a head is what the machine comes to. -/
namespace Go.Proofs.YtbbphklhnngjmaaGreatDoor
open Go.RowKit

/-- What comes of bytes: first line, did it come, fields, how many bytes were taken, whole, the error's number. -/
structure HdT where
  first : List UInt8
  begun : Bool
  fs : List Fld
  n : Nat
  whole : Bool
  e : Int
def HdS.took (l left : List UInt8) : HdS → HdT
  | .err e => ⟨[], false, [], 0, false, e⟩
  | .done f fs => ⟨f, true, fs, l.length - left.length, true, 0⟩
  | .line none _ _ _ _ => ⟨[], false, [], l.length, false, 0⟩
  | .line (some f) fs _ _ _ => ⟨f, true, fs, l.length, false, 0⟩
def hdTook (L : HdL) (may : List UInt8 → Bool) (l : List UInt8) : HdT := (hdRun L may hd0 l).took l (hdLeft L may hd0 l)
/-- At a line's begin: so many bytes were taken. -/
def AtLine (L : HdL) (may : List UInt8 → Bool) (l : List UInt8) (k : Nat) (fo : Option (List UInt8)) (fs : List Fld) (sz : Nat) : Prop :=
  k ≤ l.length ∧ hdRun L may hd0 (l.take k) = .line fo fs sz [] false
theorem atLine_start (L : HdL) (may : List UInt8 → Bool) (l : List UInt8) : AtLine L may l 0 none [] 0 := ⟨Nat.zero_le _, rfl⟩
theorem atLine_run {L : HdL} {may : List UInt8 → Bool} {l : List UInt8} {k : Nat} {fo : Option (List UInt8)} {fs : List Fld} {sz : Nat} (h : AtLine L may l k fo fs sz) :
    hdRun L may hd0 l = hdRun L may (.line fo fs sz [] false) (l.drop k) ∧ hdLeft L may hd0 l = hdLeft L may (.line fo fs sz [] false) (l.drop k) := by
  have e : l = l.take k ++ l.drop k := (List.take_append_drop k l).symm
  have h2 : mRun (L.step may) hd0 (l.take k) = .line fo fs sz [] false := h.2
  constructor
  · conv => lhs; rw [e]
    show mRun _ _ _ = _
    rw [mRun_app, h2]
  · conv => lhs; rw [e]
    show mLeft _ _ _ _ = _
    rw [mLeft_app _ _ (hd_fin L may) _ _ _ (by rw [h2]; rfl), h2]
theorem took_lnErr {L : HdL} {may : List UInt8 → Bool} {l : List UInt8} {k : Nat} {fo : Option (List UInt8)} {fs : List Fld} {sz : Nat} (h : AtLine L may l k fo fs sz) {e : Int} (hr : rlGo (L.room fo sz) [] (l.drop k) = .err e) :
    hdTook L may l = ⟨[], false, [], 0, false, e⟩ := by
  unfold hdTook
  rw [(atLine_run h).1, (run_line L may fo fs sz (l.drop k) []).2.1 e hr]
  rfl
theorem took_lnPart0 {L : HdL} {may : List UInt8 → Bool} {l : List UInt8} {c : List UInt8} {cr : Bool} (hr : rlGo (max 0 L.line) [] l = .part c cr) :
    hdTook L may l = ⟨[], false, [], l.length, false, 0⟩ := by
  have h : hdRun L may hd0 l = .line none [] 0 c cr := (run_line L may none [] 0 l []).1 c cr hr
  unfold hdTook
  rw [h]
  rfl
theorem took_lnPart {L : HdL} {may : List UInt8 → Bool} {l : List UInt8} {k : Nat} {f : List UInt8} {fs : List Fld} {sz : Nat} (h : AtLine L may l k (some f) fs sz) {c : List UInt8} {cr : Bool} (hr : rlGo (max 0 L.head - sz) [] (l.drop k) = .part c cr) :
    hdTook L may l = ⟨f, true, fs, l.length, false, 0⟩ := by
  unfold hdTook
  rw [(atLine_run h).1, (run_line L may (some f) fs sz (l.drop k) []).1 c cr hr]
  rfl
theorem took_stop {L : HdL} {may : List UInt8 → Bool} {l : List UInt8} {k : Nat} {fo : Option (List UInt8)} {fs : List Fld} {sz : Nat} {s : List UInt8} {e : Int} (h : AtLine L may l k fo fs sz) (hr : rlGo (L.room fo sz) [] (l.drop k) = .whole s)
    (hc : L.close may fo fs sz s = .err e) : hdTook L may l = ⟨[], false, [], 0, false, e⟩ := by
  obtain ⟨t, _, h1, _⟩ := run_whole (may := may) (fs := fs) hr
  unfold hdTook
  rw [(atLine_run h).1, h1, hc, hdRun_err]
  rfl
theorem took_whole {L : HdL} {may : List UInt8 → Bool} {l : List UInt8} {k : Nat} {f : List UInt8} {fs : List Fld} {sz : Nat} (h : AtLine L may l k (some f) fs sz) (hr : rlGo (max 0 L.head - sz) [] (l.drop k) = .whole []) :
    hdTook L may l = ⟨f, true, fs, k + 2, true, 0⟩ := by
  obtain ⟨t, h0, h1, h2⟩ := run_whole (L := L) (may := may) (fo := some f) (fs := fs) hr
  have hc : L.close may (some f) fs sz [] = .done f fs := by simp [HdL.close]
  rw [hc] at h1 h2
  have h3 : hdRun L may (.done f fs) t = .done f fs := mRun_fin _ _ (hd_fin L may) _ rfl t
  have h4 : hdLeft L may (.done f fs) t = t := mLeft_fin _ _ _ t rfl
  have hl := congrArg List.length h0
  rw [List.length_drop] at hl
  have hk := h.1
  simp only [List.nil_append, List.length_cons] at hl
  unfold hdTook
  rw [(atLine_run h).1, (atLine_run h).2, h1, h2, h3, h4]
  show HdT.mk f true fs (l.length - t.length) true 0 = _
  congr 1
  omega
theorem atLine_next {L : HdL} {may : List UInt8 → Bool} {l : List UInt8} {k : Nat} {fo fo2 : Option (List UInt8)} {fs fs2 : List Fld} {sz sz2 : Nat} {s : List UInt8} (h : AtLine L may l k fo fs sz) (hr : rlGo (L.room fo sz) [] (l.drop k) = .whole s)
    (hc : L.close may fo fs sz s = .line fo2 fs2 sz2 [] false) : AtLine L may l (k + s.length + 2) fo2 fs2 sz2 := by
  obtain ⟨a, t, e1, e2, e3⟩ := (run_line L may fo fs sz (l.drop k) []).2.2 s hr
  rw [List.nil_append] at e2
  subst e2
  have hl := congrArg List.length e1
  rw [List.length_drop, List.length_append] at hl
  simp only [List.length_cons] at hl
  refine ⟨by have := h.1; omega, ?_⟩
  have htk : l.take (k + s.length + 2) = l.take k ++ ((s ++ [13]) ++ [10]) := by
    rw [Nat.add_assoc, List.take_add, e1]
    congr 1
    have e4 : s ++ 13 :: 10 :: t = ((s ++ [13]) ++ [10]) ++ t := by simp
    have e5 : s.length + 2 = ((s ++ [13]) ++ [10]).length := by simp
    rw [e4, e5, List.take_left' rfl]
  have hs : L.step may (.line fo fs sz s true) 10 = L.close may fo fs sz s := by simp [HdL.step]
  have e6 : mRun (L.step may) (.line fo fs sz [] false) (s ++ [13]) = .line fo fs sz s true := e3
  have h2 : mRun (L.step may) hd0 (l.take k) = .line fo fs sz [] false := h.2
  show mRun _ _ _ = _
  rw [htk, mRun_app, h2, mRun_app, e6, mRun_cons, mRun_nil, hs, hc]
theorem rlGo_len (most : Int) : ∀ (r cur s : List UInt8), rlGo most cur r = .whole s → s.length + 2 ≤ cur.length + r.length
  | [], cur, s, h => by simp only [rlGo] at h; cases h
  | c :: r, cur, s, h => by
    simp only [rlGo] at h
    split at h
    · cases h
    · split at h
      · split at h
        · cases h
        · split at h
          · injection h with e; subst e; simp
          · cases h
      · split at h
        · cases h
        · have := rlGo_len most r (cur ++ [c]) s h
          rw [List.length_append, List.length_singleton] at this
          rw [List.length_cons]; omega
/-- More bytes. -/
theorem hd_more (L : HdL) (may : List UInt8 → Bool) (l p : List UInt8) (h : (hdRun L may hd0 l).fin = false) :
    hdTook L may (l ++ p) = (hdRun L may (hdRun L may hd0 l) p).took (l ++ p) (hdLeft L may (hdRun L may hd0 l) p) := by
  have h2 : (mRun (L.step may) hd0 l).fin = false := h
  unfold hdTook
  show HdS.took (l ++ p) (mLeft _ _ _ _) (mRun _ _ _) = _
  rw [mRun_app, mLeft_app _ _ (hd_fin L may) _ _ _ h2]
theorem hd_left (L : HdL) (may : List UInt8 → Bool) (l : List UInt8) (h : (hdTook L may l).whole = true) : l.drop (hdTook L may l).n = hdLeft L may hd0 l := by
  unfold hdTook at h ⊢
  cases hq : hdRun L may hd0 l with
  | err e => rw [hq] at h; cases h
  | done f fs => exact mLeft_drop _ _ l hd0
  | line fo fs sz cur cr => rw [hq] at h; cases fo <;> cases h
end Go.Proofs.YtbbphklhnngjmaaGreatDoor

/- request: a head in memory; NewHead, Done, Begun, First, fail. -/
namespace Go.Proofs.YtbbphklhnngjmaaGreatDoor
open Go.RowKit

/-- The cells of a head: four limits, state, first line, fields, their size, the line, its byte 13, the error; others behind them. -/
def heL (L H C B st : Int) (f : ByteArray) (rv : Value) (sz : Nat) (ln : Value) (cr : Bool) (e : Int) (rest : List Value) : List Value :=
  .int .i64 L :: .int .i64 H :: .int .i64 C :: .int .i64 B :: .int .i64 st :: .string f :: rv :: .int .i64 (sz : Int) :: ln :: .bool cr :: .int .i64 e :: rest
def heCells (L H C B st : Int) (f : ByteArray) (rv : Value) (sz : Nat) (ln : Value) (cr : Bool) (e : Int) (rest : List Value) : Array Value := (heL L H C B st f rv sz ln cr e rest).toArray
/-- Two rows of different kinds lie in different blocks. -/
theorem own_apart {w : World} {e e' : TypeId} {n n' m m' : Nat} {v v' : Value} {xs xs' : List Value} (h : w.ownsRow 0 e n v m xs) (h' : w.ownsRow 0 e' n' v' m' xs') (hne : e ≠ e') {j : Nat} (hj : v.ownBlock = some j) : v'.ownBlock ≠ some j := by
  intro hj'
  obtain ⟨_, ⟨rfl, _⟩ | ⟨k, cap, cur, rfl, _, hk, _⟩⟩ := h
  · cases hj
  · obtain ⟨_, ⟨rfl, _⟩ | ⟨k', cap', cur', rfl, _, hk', _⟩⟩ := h'
    · cases hj'
    · have e1 : k = j := by simpa [Value.ownBlock] using hj
      have e2 : k' = j := by simpa [Value.ownBlock] using hj'
      subst e1 e2
      rw [hk] at hk'
      injection hk' with h2
      injection h2 with _ h3
      exact hne h3
structure HeAt (G : Nat → Prop) (T : TypeId) (rest : List Value) (w : World) (g : Nat) (L H C B st : Int) (f : ByteArray) (fs : List Fld) (sz : Nat) (cur : List UInt8) (cr : Bool) (e : Int) (rv ln : Value) : Prop where
  row : Row w g T (heCells L H C B st f rv sz ln cr e rest)
  t1 : 5 ≠ T
  t2 : 62 ≠ T
  gG : G g
  ro : w.ownsRow 0 62 2 rv fs.length (cellsF fs)
  lo : w.ownsRow 0 5 1 ln cur.length (byteVals cur)
  rG : ∀ j, rv.ownBlock = some j → G j
  lG : ∀ j, ln.ownBlock = some j → G j
def He (G : Nat → Prop) (T : TypeId) (rest : List Value) (w : World) (g : Nat) (L H C B st : Int) (f : ByteArray) (fs : List Fld) (sz : Nat) (cur : List UInt8) (cr : Bool) (e : Int) : Prop := ∃ rv ln, HeAt G T rest w g L H C B st f fs sz cur cr e rv ln
theorem nil_flds (w : World) : w.ownsRow 0 62 2 (.slice none 0 0) ([] : List Fld).length (cellsF []) := World.ownsRow_nil w 0 _ 2
theorem nil_byt (w : World) : w.ownsRow 0 5 1 (.slice none 0 0) ([] : List UInt8).length (byteVals []) := World.ownsRow_nil w 0 _ 1
section
variable {G : Nat → Prop} {T : TypeId} {rest : List Value} {w w' : World} {g : Nat} {L H C B st : Int} {f : ByteArray} {fs : List Fld} {sz : Nat} {cur : List UInt8} {cr : Bool} {e : Int} {rv ln : Value}
theorem HeAt.cell (h : HeAt G T rest w g L H C B st f fs sz cur cr e rv ln) (i : Nat) : w.cell? ⟨g, i, none⟩ = (heL L H C B st f rv sz ln cr e rest)[i]? := by
  rw [h.row.cell i]
  unfold heCells
  rw [List.getElem?_toArray]
theorem HeAt.c (h : HeAt G T rest w g L H C B st f fs sz cur cr e rv ln) :
    w.cell? ⟨g, 0, none⟩ = some (.int .i64 L) ∧ w.cell? ⟨g, 1, none⟩ = some (.int .i64 H) ∧ w.cell? ⟨g, 2, none⟩ = some (.int .i64 C) ∧ w.cell? ⟨g, 3, none⟩ = some (.int .i64 B) ∧ w.cell? ⟨g, 4, none⟩ = some (.int .i64 st) ∧ w.cell? ⟨g, 5, none⟩ = some (.string f) ∧ w.cell? ⟨g, 6, none⟩ = some rv ∧ w.cell? ⟨g, 7, none⟩ = some (.int .i64 (sz : Int)) ∧ w.cell? ⟨g, 8, none⟩ = some ln ∧ w.cell? ⟨g, 9, none⟩ = some (.bool cr) ∧ w.cell? ⟨g, 10, none⟩ = some (.int .i64 e) :=
  ⟨h.cell 0, h.cell 1, h.cell 2, h.cell 3, h.cell 4, h.cell 5, h.cell 6, h.cell 7, h.cell 8, h.cell 9, h.cell 10⟩
theorem HeAt.below (h : HeAt G T rest w g L H C B st f fs sz cur cr e rv ln) (hb : Below w.heap.size w w') : HeAt G T rest w' g L H C B st f fs sz cur cr e rv ln :=
  ⟨h.row.below hb, h.t1, h.t2, h.gG, own_bel h.ro hb, own_bel h.lo hb, h.rG, h.lG⟩
theorem He.below (h : He G T rest w g L H C B st f fs sz cur cr e) (hb : Below w.heap.size w w') : He G T rest w' g L H C B st f fs sz cur cr e := by
  obtain ⟨rv, ln, h⟩ := h
  exact ⟨rv, ln, h.below hb⟩
theorem He.less (h : He G T rest w g L H C B st f fs sz cur cr e) : He (fun j => G j ∧ j < w.heap.size) T rest w g L H C B st f fs sz cur cr e := by
  obtain ⟨rv, ln, h⟩ := h
  exact ⟨rv, ln, h.row, h.t1, h.t2, ⟨h.gG, h.row.lt⟩, h.ro, h.lo, fun j hj => ⟨h.rG j hj, own_lt h.ro hj⟩, fun j hj => ⟨h.lG j hj, own_lt h.lo hj⟩⟩
theorem He.more {G' : Nat → Prop} (h : He G T rest w g L H C B st f fs sz cur cr e) (hg : ∀ j, j < w.heap.size → G j → G' j) : He G' T rest w g L H C B st f fs sz cur cr e := by
  obtain ⟨rv, ln, h⟩ := h
  exact ⟨rv, ln, h.row, h.t1, h.t2, hg _ h.row.lt h.gG, h.ro, h.lo, fun j hj => hg _ (own_lt h.ro hj) (h.rG j hj), fun j hj => hg _ (own_lt h.lo hj) (h.lG j hj)⟩
theorem he_put (i : Nat) (u : Value) : (heCells L H C B st f rv sz ln cr e rest).setIfInBounds i u = ((heL L H C B st f rv sz ln cr e rest).set i u).toArray := by
  unfold heCells
  rw [List.setIfInBounds_toArray]
theorem HeAt.put (h : HeAt G T rest w g L H C B st f fs sz cur cr e rv ln) (i : Nat) (u : Value) : Row (w.setCell ⟨g, i, none⟩ u) g T ((heL L H C B st f rv sz ln cr e rest).set i u).toArray := by
  rw [← he_put]
  exact h.row.put i u
theorem HeAt.set4 (h : HeAt G T rest w g L H C B st f fs sz cur cr e rv ln) (x : Int) : HeAt G T rest (w.setCell ⟨g, 4, none⟩ (.int .i64 x)) g L H C B x f fs sz cur cr e rv ln :=
  ⟨h.put 4 _, h.t1, h.t2, h.gG, own_set h.ro h.row h.t2 _, own_set h.lo h.row h.t1 _, h.rG, h.lG⟩
theorem HeAt.set5 (h : HeAt G T rest w g L H C B st f fs sz cur cr e rv ln) (x : ByteArray) : HeAt G T rest (w.setCell ⟨g, 5, none⟩ (.string x)) g L H C B st x fs sz cur cr e rv ln :=
  ⟨h.put 5 _, h.t1, h.t2, h.gG, own_set h.ro h.row h.t2 _, own_set h.lo h.row h.t1 _, h.rG, h.lG⟩
theorem HeAt.set7 (h : HeAt G T rest w g L H C B st f fs sz cur cr e rv ln) (x : Nat) : HeAt G T rest (w.setCell ⟨g, 7, none⟩ (.int .i64 (x : Int))) g L H C B st f fs x cur cr e rv ln :=
  ⟨h.put 7 _, h.t1, h.t2, h.gG, own_set h.ro h.row h.t2 _, own_set h.lo h.row h.t1 _, h.rG, h.lG⟩
theorem HeAt.set9 (h : HeAt G T rest w g L H C B st f fs sz cur cr e rv ln) (x : Bool) : HeAt G T rest (w.setCell ⟨g, 9, none⟩ (.bool x)) g L H C B st f fs sz cur x e rv ln :=
  ⟨h.put 9 _, h.t1, h.t2, h.gG, own_set h.ro h.row h.t2 _, own_set h.lo h.row h.t1 _, h.rG, h.lG⟩
theorem HeAt.set6 {fs' : List Fld} {rv' : Value} (h : HeAt G T rest w g L H C B st f fs sz cur cr e rv ln) (ho : w.ownsRow 0 62 2 rv' fs'.length (cellsF fs')) (hG : ∀ j, rv'.ownBlock = some j → G j) :
    HeAt G T rest (w.setCell ⟨g, 6, none⟩ rv') g L H C B st f fs' sz cur cr e rv' ln :=
  ⟨h.put 6 _, h.t1, h.t2, h.gG, own_set ho h.row h.t2 _, own_set h.lo h.row h.t1 _, hG, h.lG⟩
theorem HeAt.set8 {cur' : List UInt8} {ln' : Value} (h : HeAt G T rest w g L H C B st f fs sz cur cr e rv ln) (ho : w.ownsRow 0 5 1 ln' cur'.length (byteVals cur')) (hG : ∀ j, ln'.ownBlock = some j → G j) :
    HeAt G T rest (w.setCell ⟨g, 8, none⟩ ln') g L H C B st f fs sz cur' cr e rv ln' :=
  ⟨h.put 8 _, h.t1, h.t2, h.gG, own_set h.ro h.row h.t2 _, own_set ho h.row h.t1 _, h.rG, hG⟩
end
theorem HeAt.reset {G : Nat → Prop} {T : TypeId} {rest : List Value} {w : World} {g : Nat} {L H C B st : Int} {f : ByteArray} {fs : List Fld} {sz : Nat} {cur : List UInt8} {cr : Bool} {e : Int} {rv ln : Value} (h : HeAt G T rest w g L H C B st f fs sz cur cr e rv ln) (x : Int) :
    He G T rest (((((((((((w.setCell ⟨g, 0, none⟩ (.int .i64 0)).setCell ⟨g, 1, none⟩ (.int .i64 0)).setCell ⟨g, 2, none⟩ (.int .i64 0)).setCell ⟨g, 3, none⟩ (.int .i64 0)).setCell ⟨g, 4, none⟩ (.int .i64 3)).setCell ⟨g, 5, none⟩ (.string ⟨#[]⟩)).setCell ⟨g, 6, none⟩ (.slice none 0 0)).setCell ⟨g, 7, none⟩ (.int .i64 0)).setCell ⟨g, 8, none⟩ (.slice none 0 0)).setCell ⟨g, 9, none⟩ (.bool false)).setCell ⟨g, 10, none⟩ (.int .i64 x)) g 0 0 0 0 3 ⟨#[]⟩ [] 0 [] false x ∧
    Keep G w (((((((((((w.setCell ⟨g, 0, none⟩ (.int .i64 0)).setCell ⟨g, 1, none⟩ (.int .i64 0)).setCell ⟨g, 2, none⟩ (.int .i64 0)).setCell ⟨g, 3, none⟩ (.int .i64 0)).setCell ⟨g, 4, none⟩ (.int .i64 3)).setCell ⟨g, 5, none⟩ (.string ⟨#[]⟩)).setCell ⟨g, 6, none⟩ (.slice none 0 0)).setCell ⟨g, 7, none⟩ (.int .i64 0)).setCell ⟨g, 8, none⟩ (.slice none 0 0)).setCell ⟨g, 9, none⟩ (.bool false)).setCell ⟨g, 10, none⟩ (.int .i64 x)) := by
  have K : ∀ (v : World) (i : Nat) (u : Value), Keep G v (v.setCell ⟨g, i, none⟩ u) := fun v i u => Keep.setCell v (p := ⟨g, i, none⟩) h.gG u
  have r := ((((((((((h.row.put 0 (.int .i64 0)).put 1 (.int .i64 0)).put 2 (.int .i64 0)).put 3 (.int .i64 0)).put 4 (.int .i64 3)).put 5 (.string ⟨#[]⟩)).put 6 (.slice none 0 0)).put 7 (.int .i64 0)).put 8 (.slice none 0 0)).put 9 (.bool false)).put 10 (.int .i64 x)
  unfold heCells at r
  simp only [List.setIfInBounds_toArray] at r
  exact ⟨⟨.slice none 0 0, .slice none 0 0, r, h.t1, h.t2, h.gG, nil_flds _, nil_byt _, (fun j h => by cases h), (fun j h => by cases h)⟩,
    ((((((((((K _ _ _).trans (K _ _ _)).trans (K _ _ _)).trans (K _ _ _)).trans (K _ _ _)).trans (K _ _ _)).trans (K _ _ _)).trans (K _ _ _)).trans (K _ _ _)).trans (K _ _ _)).trans (K _ _ _)⟩
section
variable (G : Nat → Prop) (T : TypeId) (rest : List Value) (g : Nat) (L H C B st : Int) (f : ByteArray) (fs : List Fld) (sz : Nat) (cur : List UInt8) (cr : Bool) (e : Int)
theorem hdone9 (q : Bool) (hq : (st == 2) = q) (w : World) (h : He G T rest w g L H C B st f fs sz cur cr e) :
    Calls Tryz.prog 92 #[.pointer (some ⟨g, 0, none⟩)] w fun x w' => x = .returned (.bool q) ∧ w = w' := by
  obtain ⟨rv, ln, h⟩ := h
  have c := h.c.2.2.2.2.1
  go_enter Tryz.func92, Tryz.ntmps92
  go_wp2_with fail
  go_ret
  exact ⟨rfl, rfl⟩
theorem hbegun12 (q1 q2 : Bool) (hq1 : (st == 1) = q1) (hq2 : (st == 2) = q2) (w : World) (h : He G T rest w g L H C B st f fs sz cur cr e) :
    Calls Tryz.prog 90 #[.pointer (some ⟨g, 0, none⟩)] w fun x w' => x = .returned (.bool (q1 || q2)) ∧ w = w' := by
  obtain ⟨rv, ln, h⟩ := h
  have c := h.c.2.2.2.2.1
  cases q1
  · go_enter Tryz.func90, Tryz.ntmps90
    go_wp2_with fail
    go_ret
    exact ⟨rfl, rfl⟩
  · go_enter Tryz.func90, Tryz.ntmps90
    go_wp2_with fail
    go_ret
    exact ⟨rfl, rfl⟩
theorem hfirst13 (w : World) (h : He G T rest w g L H C B st f fs sz cur cr e) :
    Calls Tryz.prog 114 #[.pointer (some ⟨g, 0, none⟩)] w fun x w' => x = .returned (.string f) ∧ w = w' := by
  obtain ⟨rv, ln, h⟩ := h
  have c := h.c.2.2.2.2.2.1
  go_enter Tryz.func114, Tryz.ntmps114
  go_wp2_with fail
  go_ret
  exact ⟨rfl, rfl⟩
theorem hfail40 (x : Int) (w : World) (h : He G T rest w g L H C B st f fs sz cur cr e) :
    Calls Tryz.prog 146 #[.pointer (some ⟨g, 0, none⟩), .int .i64 x] w fun r w' => r = .returned (.tuple #[]) ∧ He G T rest w' g 0 0 0 0 3 ⟨#[]⟩ [] 0 [] false x ∧ Keep G w w' := by
  obtain ⟨rv, ln, h⟩ := h
  obtain ⟨c0, c1, c2, c3, c4, c5, c6, c7, c8, c9, c10⟩ := h.c
  have f0 := h.row.free 0
  have f1 := h.row.free 1
  have f2 := h.row.free 2
  have f3 := h.row.free 3
  have f4 := h.row.free 4
  have f5 := h.row.free 5
  have f6 := h.row.free 6
  have f7 := h.row.free 7
  have f8 := h.row.free 8
  have f9 := h.row.free 9
  have f10 := h.row.free 10
  have HD := Lib.hid h
  clear h
  go_enter Tryz.func146, Tryz.ntmps146
  go_wp2_with fail
  go_end0
  exact ⟨rfl, HD.out.reset x⟩
end
end Go.Proofs.YtbbphklhnngjmaaGreatDoor

/- request: a head in memory; NewHead, a byte that lengthens the line. -/
namespace Go.Proofs.YtbbphklhnngjmaaGreatDoor
open Go.RowKit

/-- append, at an operation, with where the result lies. -/
theorem wp_append_at {P : Program} (w : World) {o : Oper} {a : Act} {K : Act → World → Prop} {Q : Exit → Act → World → Prop} (s x : Operand) (t : TypeId)
    (ho : o.op = .call { callee := .builtin .append, args := #[s, x], argTypes := #[t, t] })
    (base : Nat) (e : TypeId) (i : TypeInfo) (z : Value) (size bytes : Nat) (ht : P.underlying t = some (.slice e)) (hi : P.info? e = some i) (hz : i.zero = some z)
    (hsize : i.size = size) (hby : i.bytes = bytes) (hzs : z.cells.size = size) (hsz : 0 < size)
    (v : Value) (n : Nat) (xs : List Value) (hs : a.eval s = v) (hown : w.ownsRow base e size v n xs)
    (ad : Addr) (m c : Nat) (news : List Value) (hx : a.eval x = .slice (some ad) m c) (hl : news.length = m * size) (hnews : ∀ j u, news[j]? = some u → w.cell? (ad.add j) = some u) (h1 : ∀ u ∈ news, u.oneCell' = true)
    (h63 : n + m ≤ maxLen) (hbytes : (n + m) * bytes ≤ 140737488355328) (hbase : base ≤ w.heap.size)
    (h : ∀ v' w', w'.ownsRow base e size v' (n + m) (xs ++ news) → w.grownBy w' v.ownBlock → (v'.ownBlock = v.ownBlock ∨ v'.ownBlock = some w.heap.size) → K (a.put o.dst v') w') : o.wp P a w K Q := by
  obtain ⟨v', w', hr, h2, h3, _, h5⟩ := run_append_own_at (P := P) w base t o.type e i z size bytes ht hi hz hsize hby hzs hsz v n xs hown ad m c news hl hnews h1 h63 hbytes hbase
  unfold Oper.wp execOp
  simp only [ho, resolve, invoke, builtin, Sem.run_bind, Sem.run_pure, Result.andThen_ok, List.map_toArray, List.map_cons, List.map_nil, hs, hx, hr]
  exact h v' w' h2 h3 h5
section
variable {G : Nat → Prop} {T : TypeId} {rest : List Value} {w w' : World} {g : Nat} {L H C B st : Int} {f : ByteArray} {fs : List Fld} {sz : Nat} {cur : List UInt8} {cr : Bool} {e : Int} {rv ln : Value}
theorem HeAt.he (h : HeAt G T rest w g L H C B st f fs sz cur cr e rv ln) : He G T rest w g L H C B st f fs sz cur cr e := ⟨_, _, h⟩
/-- The line's row has grown. -/
theorem HeAt.grewL {row : Option Nat} {ln' : Value} {cur' : List UInt8} (h : HeAt G T rest w g L H C B st f fs sz cur cr e rv ln) (hg : w.grownBy w' row) (hr : row = ln.ownBlock) (ha : ln'.ownBlock = ln.ownBlock ∨ ln'.ownBlock = some w.heap.size) (hu : Up G w)
    (ho : w'.ownsRow 0 5 1 ln' cur'.length (byteVals cur')) :
    HeAt G T rest (w'.setCell ⟨g, 8, none⟩ ln') g L H C B st f fs sz cur' cr e rv ln' ∧ Row w' g T (heCells L H C B st f rv sz ln cr e rest) ∧ Keep G w (w'.setCell ⟨g, 8, none⟩ ln') := by
  subst hr
  have hrow := h.row.grown hg (own_ne h.lo h.row h.t1)
  have hro := own_grown h.ro hg (fun j hj he => own_apart h.ro h.lo (by decide) hj he)
  have hG : ∀ j, ln'.ownBlock = some j → G j := fun j hj => by
    rcases ha with e | e
    · exact h.lG j (by rw [← e]; exact hj)
    · rw [e] at hj; injection hj with hj; exact hu j (by omega)
  have hk : Keep G w w' := .grown hg h.lG
  have r8 : Row (w'.setCell ⟨g, 8, none⟩ ln') g T ((heL L H C B st f rv sz ln cr e rest).set 8 ln').toArray := by
    rw [← he_put]; exact hrow.put 8 _
  exact ⟨⟨r8, h.t1, h.t2, h.gG, own_set hro hrow h.t2 _, own_set ho hrow h.t1 _, h.rG, hG⟩, hrow, hk.trans (Keep.setCell w' (p := ⟨g, 8, none⟩) h.gG ln')⟩
/-- The fields' row has grown. -/
theorem HeAt.grewR {row : Option Nat} {rv' : Value} {fs' : List Fld} (h : HeAt G T rest w g L H C B st f fs sz cur cr e rv ln) (hg : w.grownBy w' row) (hr : row = rv.ownBlock) (ha : rv'.ownBlock = rv.ownBlock ∨ rv'.ownBlock = some w.heap.size) (hu : Up G w)
    (ho : w'.ownsRow 0 62 2 rv' fs'.length (cellsF fs')) :
    HeAt G T rest (w'.setCell ⟨g, 6, none⟩ rv') g L H C B st f fs' sz cur cr e rv' ln ∧ Row w' g T (heCells L H C B st f rv sz ln cr e rest) ∧ Keep G w (w'.setCell ⟨g, 6, none⟩ rv') ∧ Keep G w w' := by
  subst hr
  have hrow := h.row.grown hg (own_ne h.ro h.row h.t2)
  have hlo := own_grown h.lo hg (fun j hj he => own_apart h.lo h.ro (by decide) hj he)
  have hG : ∀ j, rv'.ownBlock = some j → G j := fun j hj => by
    rcases ha with e | e
    · exact h.rG j (by rw [← e]; exact hj)
    · rw [e] at hj; injection hj with hj; exact hu j (by omega)
  have hk : Keep G w w' := .grown hg h.rG
  have r6 : Row (w'.setCell ⟨g, 6, none⟩ rv') g T ((heL L H C B st f rv sz ln cr e rest).set 6 rv').toArray := by
    rw [← he_put]; exact hrow.put 6 _
  exact ⟨⟨r6, h.t1, h.t2, h.gG, own_set ho hrow h.t2 _, own_set hlo hrow h.t1 _, hG, h.lG⟩, hrow, hk.trans (Keep.setCell w' (p := ⟨g, 6, none⟩) h.gG rv'), hk⟩
end
theorem infoU8r : (Tryz.prog.info? 5).map (fun i => (i.zero, i.size, i.bytes)) = some (some (.int .u8 0), 1, 1) := by kernel_rfl
set_option maxRecDepth 100000 in
set_option maxHeartbeats 2000000 in
/-- NewHead. -/
theorem newhead7 (l h c b : Int) (w : World) :
    Calls Tryz.prog 57 #[.agg #[.int .i64 l, .int .i64 h, .int .i64 c, .int .i64 b]] w fun x w' => ∃ g, x = .returned (.pointer (some ⟨g, 0, none⟩)) ∧ w.heap.size ≤ g ∧ He (fun j => j = g) 103 [] w' g (max l 0) (max h 0) (max c 0) b 0 ⟨#[]⟩ [] 0 [] false 0 ∧ Below w.heap.size w w' := by
  go_enter Tryz.func57, Tryz.ntmps57
  go_wp2_with fail
  go_ret
  refine ⟨w.heap.size + 1, rfl, Nat.le_succ _, ⟨.slice none 0 0, .slice none 0 0, ?_⟩, ((below_alloc w _).alloc (by simp) _)⟩
  have hr := Row.new (w.alloc (.cells #[.int .i64 (max l 0), .int .i64 (max h 0), .int .i64 (max c 0), .int .i64 b] 57)) 103 #[.int .i64 (max l 0), .int .i64 (max h 0), .int .i64 (max c 0), .int .i64 b, .int .i64 0, .string ⟨#[]⟩, .slice none 0 0, .int .i64 0, .slice none 0 0, .bool false, .int .i64 0]
  have hz : (w.alloc (.cells #[.int .i64 (max l 0), .int .i64 (max h 0), .int .i64 (max c 0), .int .i64 b] 57)).heap.size = w.heap.size + 1 := by simp
  rw [hz] at hr
  exact ⟨hr, by decide, by decide, rfl, nil_flds _, nil_byt _, (fun j h => by cases h), (fun j h => by cases h)⟩
/-- The way that a byte's line takes: is it too long? -/
def TooLong (L H st : Int) (sz n : Nat) (q : Bool) : Prop := (st = 0 ∧ q = decide (L < (n : Int))) ∨ (st = 1 ∧ q = decide (H < (sz : Int) + (n : Int)))
def HSel (q : Bool) (A B : Prop) : Prop := if q = true then A else B
set_option maxRecDepth 100000 in
set_option maxHeartbeats 4000000 in
theorem hext42 (G : Nat → Prop) (T : TypeId) (rest : List Value) (g : Nat) (L H C B st : Int) (f : ByteArray) (fs : List Fld) (sz : Nat) (cur : List UInt8) (cr : Bool) (e : Int) (c : UInt8) (q : Bool) (hq : TooLong L H st sz (cur.length + 1) q) (hsz : sz + cur.length ≤ 1000000000) (w : World) (h : He G T rest w g L H C B st f fs sz cur cr e) (hu : Up G w) :
    Calls Tryz.prog 148 #[.pointer (some ⟨g, 0, none⟩), .int .u8 (c.toNat : Int)] w fun r w' => r = .returned (.tuple #[]) ∧ HSel q (He G T rest w' g 0 0 0 0 3 ⟨#[]⟩ [] 0 [] false 4) (He G T rest w' g L H C B st f fs sz (cur ++ [c]) cr e) ∧ Keep G w w' := by
  obtain ⟨i0, hi, hz0, hz1, hz2⟩ := info_parts infoU8r
  obtain ⟨rv, ln, h⟩ := h
  have c8 := h.c.2.2.2.2.2.2.2.2.1
  have f8 := h.row.free 8
  have HD := Lib.hid h
  have HU := Lib.hid hu
  have HQ := Lib.hid hq
  clear h hu hq
  go_enter Tryz.func148, Tryz.ntmps148
  go_wp2_with (at_builtin; refine wpList_append_own_at _ rfl _ _ 101 rfl 0 5 i0 (.int .u8 0) 1 1 Tryz.underlying101 hi hz0 hz1 hz2 rfl (by decide) _ _ _ rfl (HD.out.lo.alloc _) ⟨w.heap.size, 0, none⟩ 1 1 [.int .u8 (c.toNat : Int)] rfl rfl (cell_one _ _ _) (one_cell _ _) (by unfold maxLen; omega) (by omega) (Nat.zero_le _) ?_)
  intro v' w1 hown' hgrow _ hat
  have L0 := below_alloc w (.cells #[.int .u8 (c.toNat : Int)] 5)
  rw [byteVals_snoc] at hown'
  obtain ⟨n, hn⟩ : ∃ n, cur.length + 1 = n := ⟨_, rfl⟩
  have hown2 := own_len hown' (show cur.length + 1 = (cur ++ [c]).length by simp)
  rw [hn] at hown' HQ
  obtain ⟨va, vc, rfl⟩ := own_slice hown'
  obtain ⟨HD2, row1, K1⟩ := (HD.out.below L0).grewL hgrow rfl (hat.imp id (fun e => e.trans (by simp))) (HU.out.below L0) hown2
  have HK2 := Lib.hid ((Keep.of_below (G := G) L0).trans K1)
  have c81 : w1.cell? ⟨g, 8, none⟩ = some ln := (row1.cell 8).trans (by simp [heCells, heL])
  have f81 := row1.free 8
  have hnz : n ≤ 1000000001 := by omega
  have hnz2 : sz + n ≤ 1000000001 := by omega
  clear L0 row1 K1 hown' hown2 hgrow hat c8 f8 hi hz0 hz1 hz2 hn
  go_wp2_with fail
  clear c81 f81
  have HD3 := Lib.hid HD2
  clear HD2
  generalize w1.setCell ⟨g, 8, none⟩ (.slice va n vc) = w2 at *
  obtain ⟨c0, c1, c2, c3, c4, c5, c6, c7, c8, c9, c10⟩ := HD3.out.c
  clear c2 c3 c5 c6 c9 c10
  have HF := Lib.hid (fun (W : World) (st : Int) (h : He G T rest W g L H C B st f fs sz (cur ++ [c]) cr e) => hfail40 G T rest g L H C B st f fs sz (cur ++ [c]) cr e 4 W h)
  have DN : ∀ k, Below w2.heap.size w2 (w2.drewN k) := fun k => ⟨rfl, rfl, rfl, Nat.le_refl _, fun _ _ => rfl⟩
  have HDN := Lib.hid DN
  clear DN
  rcases HQ.out with ⟨rfl, hq⟩ | ⟨rfl, hq⟩
  · by_cases hlt : L < (n : Int)
    · have h1 : decide (L < (n : Int)) = true := decide_eq_true hlt
      obtain rfl : q = true := by rw [hq, h1]
      clear hq
      go_quiet (fail)
      go_wp2_with fail
      with_reducible refine (HF.out _ _ (HD3.out.below (HDN.out _)).he).mono ?_
      rintro e9 w' ⟨rfl, hd, hk⟩
      go_wp2_with fail
      go_end0
      exact ⟨rfl, hd, (HK2.out.trans (.of_below (HDN.out _))).trans hk⟩
    · have h1 : decide (L < (n : Int)) = false := decide_eq_false hlt
      obtain rfl : q = false := by rw [hq, h1]
      clear hq
      go_quiet (fail)
      go_wp2_with fail
      go_end0
      exact ⟨rfl, ⟨_, _, HD3.out.below (HDN.out _)⟩, HK2.out.trans (.of_below (HDN.out _))⟩
  · by_cases hlt : H < (sz : Int) + (n : Int)
    · have h1 : decide (H < (sz : Int) + (n : Int)) = true := decide_eq_true hlt
      obtain rfl : q = true := by rw [hq, h1]
      clear hq
      go_quiet (fail)
      go_wp2_with fail
      with_reducible refine (HF.out _ _ (HD3.out.below (HDN.out _)).he).mono ?_
      rintro e9 w' ⟨rfl, hd, hk⟩
      go_wp2_with fail
      go_end0
      exact ⟨rfl, hd, (HK2.out.trans (.of_below (HDN.out _))).trans hk⟩
    · have h1 : decide (H < (sz : Int) + (n : Int)) = false := decide_eq_false hlt
      obtain rfl : q = false := by rw [hq, h1]
      clear hq
      go_quiet (fail)
      go_wp2_with fail
      go_end0
      exact ⟨rfl, ⟨_, _, HD3.out.below (HDN.out _)⟩, HK2.out.trans (.of_below (HDN.out _))⟩
end Go.Proofs.YtbbphklhnngjmaaGreatDoor

