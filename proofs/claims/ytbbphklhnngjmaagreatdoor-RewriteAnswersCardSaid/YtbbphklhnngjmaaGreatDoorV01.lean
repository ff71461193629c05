/- Packed: RsN, LawRaS. -/
import Derived.Test.YtbbphklhnngjmaaGreatDoorV00
/- rewrite's law: Answers (written by genrsn.py). -/
namespace Go.Proofs.YtbbphklhnngjmaaGreatDoor
open Go.RowKit

set_option maxRecDepth 100000 in
set_option maxHeartbeats 8000000 in
theorem answers26 (kc : Int) (tt bb : ByteArray) (kk : Int) (a : Option Addr) (c : Nat) (fs : List Fld) (hfl : fs.length ≤ 9223372036854775807) (w : World) (hf : IsFlds w a c fs) :
    Calls Tryz.prog 26 #[.agg #[.int .i64 kc, .string tt, .slice a fs.length c, .string bb, .int .i64 kk]] w fun e w' => ∃ b d, e = .returned (.agg #[.int .i64 kc, .string (cutS tt 20), .slice b (fewF fs 8).length d, .string (cutS bb 60), .int .i64 kk]) ∧ (b = none → d = 0 ∧ (fewF fs 8) = []) ∧ IsFlds w' b d ((fewF fs 8)) ∧ Below w.heap.size w w' := by
  have HM : Hid (∀ W, IsFlds W a c fs → Calls Tryz.prog 9 #[.slice a fs.length c, .int .i64 8] W fun e w' => ∃ u, e = .returned u ∧ w'.ownsRow W.heap.size 53 2 u (fewF fs 8).length (cellsF (fewF fs 8)) ∧ Below W.heap.size W w') := fun W h => few39 a c fs 8 (by decide) hfl W h
  have HC2 := Lib.hid (fun W => cut11 tt 20 W)
  have HC3 := Lib.hid (fun W => cut11 bb 60 W)
  generalize cutS tt 20 = t2 at *
  generalize cutS bb 60 = b2 at *
  clear hfl
  obtain ⟨FF, hFF⟩ : ∃ X, X = (fewF fs 8) := ⟨_, rfl⟩
  obtain ⟨m, hm⟩ : ∃ m, m = FF.length := ⟨_, rfl⟩
  rw [← hFF] at HM ⊢
  obtain ⟨n, hn⟩ : ∃ n, n = fs.length := ⟨_, rfl⟩
  rw [← hn] at HM ⊢
  have HMM := Lib.hid hm
  have R0 := (Row.new w 24 #[.int .i64 kc, .string tt, .slice a n c, .string bb, .int .i64 kk]).alloc (.cells #[.int .i64 0, .string ⟨#[]⟩, .slice none 0 0, .string ⟨#[]⟩, .int .i64 0] 24)
  have R1 := Row.new (w.alloc (.cells #[.int .i64 kc, .string tt, .slice a n c, .string bb, .int .i64 kk] 24)) 24 #[.int .i64 0, .string ⟨#[]⟩, .slice none 0 0, .string ⟨#[]⟩, .int .i64 0]
  rw [show (w.alloc (.cells #[.int .i64 kc, .string tt, .slice a n c, .string bb, .int .i64 kk] 24)).heap.size = w.heap.size + 1 by simp] at R1
  have L1 := (below_alloc w (.cells #[.int .i64 kc, .string tt, .slice a n c, .string bb, .int .i64 kk] 24)).alloc (by simp) (.cells #[.int .i64 0, .string ⟨#[]⟩, .slice none 0 0, .string ⟨#[]⟩, .int .i64 0] 24)
  have HF := Lib.hid (hf.below L1)
  clear hf hFF hn
  go_enter Tryz.func26, Tryz.ntmps26
  go_upto_region 1 with fail
  obtain ⟨bM, hbM⟩ : ∃ bM, bM = w.heap.size := ⟨_, rfl⟩
  obtain ⟨bR, hbR⟩ : ∃ bR, bR = w.heap.size + 1 := ⟨_, rfl⟩
  have hbR0 : w.heap.size ≤ bR := by omega
  rw [← hbM] at R0
  rw [← hbR] at R1 ⊢
  rw [← hbM]
  generalize World.alloc (World.alloc w _) _ = w1 at *
  have HL1 := Lib.hid L1
  have r0 : w1.cell? ⟨bM, 0, none⟩ = some (.int .i64 kc) := R0.cell 0
  have r1 : w1.cell? ⟨bM, 1, none⟩ = some (.string tt) := R0.cell 1
  have r2 : w1.cell? ⟨bM, 2, none⟩ = some (.slice a n c) := R0.cell 2
  have r3 : w1.cell? ⟨bM, 3, none⟩ = some (.string bb) := R0.cell 3
  have r4 : w1.cell? ⟨bM, 4, none⟩ = some (.int .i64 kk) := R0.cell 4
  have hlt := R0.lt
  have RR := Lib.hid R1
  clear L1 R0 R1 hbM hbR hm
  rw [← HMM.out] at HM
  refine region_mixt 14 [some (.pointer (some ⟨bM, 0, none⟩)), some (.int .i64 kc), some (.pointer (some ⟨bM, 1, none⟩)), some (.string tt), some (.string t2), some (.pointer (some ⟨bM, 2, none⟩)), some (.slice a n c), none, some (.pointer (some ⟨bM, 3, none⟩)), some (.string bb), some (.string b2), some (.pointer (some ⟨bM, 4, none⟩)), some (.int .i64 kk), none]
    [[false, false, false, false, false, false, false, false, false, false, false, false, false, false], [true, false, false, false, false, false, false, false, false, false, false, false, false, false], [false, false, false, false, false, false, false, false, false, false, false, false, false, false], [false, false, true, false, false, false, false, false, false, false, false, false, false, false], [false, false, false, true, false, false, false, false, false, false, false, false, false, false], [false, false, false, false, false, false, false, false, false, false, false, false, false, false], [false, false, false, false, false, true, false, false, false, false, false, false, false, false], [false, false, false, false, true, false, true, false, false, false, false, false, false, false], [false, false, false, false, false, false, false, false, false, false, false, false, false, false], [false, false, false, false, false, false, false, false, true, false, false, false, false, false], [false, false, false, false, false, false, false, true, false, true, false, false, false, false], [false, false, false, false, false, false, false, false, false, false, false, false, false, false], [false, false, false, false, false, false, false, false, false, false, false, true, false, false], [false, true, false, false, true, false, false, true, false, false, true, false, true, false]]
    (fun L x w9 => Below w1.heap.size w1 w9 ∧ (L 7 = true → ∃ b d, x 7 = .slice b m d ∧ (b = none → d = 0 ∧ FF = []) ∧ IsFlds w9 b d FF ∧ (∀ ad, b = some ad → w1.heap.size ≤ ad.block)) ∧ (L 13 = true → L 7 = true ∧ x 13 = .agg #[.int .i64 kc, .string t2, x 7, .string b2, .int .i64 kk]))
    (by kernel_rfl) (by kernel_rfl) (by kernel_rfl) (by kernel_rfl) (by kernel_rfl) (by decide) ?_ ?_ ?_
  · intro _
    exact ⟨⟨rfl, rfl, rfl, Nat.le_refl _, fun _ _ => rfl⟩, (fun h => by cases h), (fun h => by cases h)⟩
  · simp only [List.take_succ_cons, List.take_zero]
    refine ⟨?_, ?_, ?_, ?_, ?_, ?_, ?_, ?_, ?_, ?_, ?_, ?_, ?_, ?_, trivial⟩
    all_goals
      intro L x w9 hS hl hp K9 hK9
      have hs : Below w1.heap.size w1 w9 ∧ (L 7 = true → ∃ b d, x 7 = .slice b m d ∧ (b = none → d = 0 ∧ FF = []) ∧ IsFlds w9 b d FF ∧ (∀ ad, b = some ad → w1.heap.size ≤ ad.block)) ∧ (L 13 = true → L 7 = true ∧ x 13 = .agg #[.int .i64 kc, .string t2, x 7, .string b2, .int .i64 kk]) := hS
      clear hS
      replace hK9 := hK9.out
      simp only [actMix, pickV, List.tail_cons, List.headD_cons, Act.put, List.setIfInBounds_toArray, List.set_cons_zero, List.set_cons_succ] at hK9 ⊢
    · clear hp
      go_simp
      with_reducible refine hK9 _ ?_
      exact ⟨hs.1, fun h => by
        obtain ⟨b, d, h1, h2, h3, h4⟩ := hs.2.1 (by simpa [setL] using h)
        exact ⟨b, d, by simpa [updV] using h1, h2, h3, h4⟩, fun h => by
        obtain ⟨h1, h2⟩ := hs.2.2 (by simpa [setL] using h)
        exact ⟨by simpa [setL] using h1, by simpa [updV] using h2⟩⟩
    · have s0 : w9.cell? ⟨bM, 0, none⟩ = some (.int .i64 kc) := by rw [(bcell hs.1).1 _ _ hlt]; exact r0
      clear hp
      go_simp
      with_reducible refine hK9 _ ?_
      exact ⟨hs.1, fun h => by
        obtain ⟨b, d, h1, h2, h3, h4⟩ := hs.2.1 (by simpa [setL] using h)
        exact ⟨b, d, by simpa [updV] using h1, h2, h3, h4⟩, fun h => by
        obtain ⟨h1, h2⟩ := hs.2.2 (by simpa [setL] using h)
        exact ⟨by simpa [setL] using h1, by simpa [updV] using h2⟩⟩
    · clear hp
      go_simp
      with_reducible refine hK9 _ ?_
      exact ⟨hs.1, fun h => by
        obtain ⟨b, d, h1, h2, h3, h4⟩ := hs.2.1 (by simpa [setL] using h)
        exact ⟨b, d, by simpa [updV] using h1, h2, h3, h4⟩, fun h => by
        obtain ⟨h1, h2⟩ := hs.2.2 (by simpa [setL] using h)
        exact ⟨by simpa [setL] using h1, by simpa [updV] using h2⟩⟩
    · have s1 : w9.cell? ⟨bM, 1, none⟩ = some (.string tt) := by rw [(bcell hs.1).1 _ _ hlt]; exact r1
      clear hp
      go_simp
      with_reducible refine hK9 _ ?_
      exact ⟨hs.1, fun h => by
        obtain ⟨b, d, h1, h2, h3, h4⟩ := hs.2.1 (by simpa [setL] using h)
        exact ⟨b, d, by simpa [updV] using h1, h2, h3, h4⟩, fun h => by
        obtain ⟨h1, h2⟩ := hs.2.2 (by simpa [setL] using h)
        exact ⟨by simpa [setL] using h1, by simpa [updV] using h2⟩⟩
    · clear hp
      go_simp
      refine (HC2.out w9).mono ?_
      rintro e9 w8 ⟨rfl, rfl⟩
      with_reducible refine hK9 _ ?_
      exact ⟨hs.1, fun h => by
        obtain ⟨b, d, h1, h2, h3, h4⟩ := hs.2.1 (by simpa [setL] using h)
        exact ⟨b, d, by simpa [updV] using h1, h2, h3, h4⟩, fun h => by
        obtain ⟨h1, h2⟩ := hs.2.2 (by simpa [setL] using h)
        exact ⟨by simpa [setL] using h1, by simpa [updV] using h2⟩⟩
    · clear hp
      go_simp
      with_reducible refine hK9 _ ?_
      exact ⟨hs.1, fun h => by
        obtain ⟨b, d, h1, h2, h3, h4⟩ := hs.2.1 (by simpa [setL] using h)
        exact ⟨b, d, by simpa [updV] using h1, h2, h3, h4⟩, fun h => by
        obtain ⟨h1, h2⟩ := hs.2.2 (by simpa [setL] using h)
        exact ⟨by simpa [setL] using h1, by simpa [updV] using h2⟩⟩
    · have s2 : w9.cell? ⟨bM, 2, none⟩ = some (.slice a n c) := by rw [(bcell hs.1).1 _ _ hlt]; exact r2
      clear hp
      go_simp
      with_reducible refine hK9 _ ?_
      exact ⟨hs.1, fun h => by
        obtain ⟨b, d, h1, h2, h3, h4⟩ := hs.2.1 (by simpa [setL] using h)
        exact ⟨b, d, by simpa [updV] using h1, h2, h3, h4⟩, fun h => by
        obtain ⟨h1, h2⟩ := hs.2.2 (by simpa [setL] using h)
        exact ⟨by simpa [setL] using h1, by simpa [updV] using h2⟩⟩
    · clear hp
      go_simp
      have h12 : L 13 = false := by
        cases h : L 13 with
        | false => rfl
        | true => have := (hs.2.2 h).1; rw [hl] at this; cases this
      refine (HM.out w9 (HF.out.below hs.1)).mono ?_
      rintro e9 w8 ⟨u, rfl, ho, hb8⟩
      rw [HMM.out] at ho
      obtain ⟨b, d, rfl, _, hbn, hf8, hnw⟩ := own_isFldsB ho
      rw [← HMM.out]
      with_reducible refine hK9 _ _ ?_
      exact ⟨hs.1.trans (hb8.mono hs.1.size), fun _ => ⟨b, d, by simp [updV, *], hbn, hf8, fun ad had => Nat.le_trans hs.1.size (hnw ad had)⟩, fun h => by simp [setL, h12] at h⟩
    · clear hp
      go_simp
      with_reducible refine hK9 _ ?_
      exact ⟨hs.1, fun h => by
        obtain ⟨b, d, h1, h2, h3, h4⟩ := hs.2.1 (by simpa [setL] using h)
        exact ⟨b, d, by simpa [updV] using h1, h2, h3, h4⟩, fun h => by
        obtain ⟨h1, h2⟩ := hs.2.2 (by simpa [setL] using h)
        exact ⟨by simpa [setL] using h1, by simpa [updV] using h2⟩⟩
    · have s3 : w9.cell? ⟨bM, 3, none⟩ = some (.string bb) := by rw [(bcell hs.1).1 _ _ hlt]; exact r3
      clear hp
      go_simp
      with_reducible refine hK9 _ ?_
      exact ⟨hs.1, fun h => by
        obtain ⟨b, d, h1, h2, h3, h4⟩ := hs.2.1 (by simpa [setL] using h)
        exact ⟨b, d, by simpa [updV] using h1, h2, h3, h4⟩, fun h => by
        obtain ⟨h1, h2⟩ := hs.2.2 (by simpa [setL] using h)
        exact ⟨by simpa [setL] using h1, by simpa [updV] using h2⟩⟩
    · clear hp
      go_simp
      refine (HC3.out w9).mono ?_
      rintro e9 w8 ⟨rfl, rfl⟩
      with_reducible refine hK9 _ ?_
      exact ⟨hs.1, fun h => by
        obtain ⟨b, d, h1, h2, h3, h4⟩ := hs.2.1 (by simpa [setL] using h)
        exact ⟨b, d, by simpa [updV] using h1, h2, h3, h4⟩, fun h => by
        obtain ⟨h1, h2⟩ := hs.2.2 (by simpa [setL] using h)
        exact ⟨by simpa [setL] using h1, by simpa [updV] using h2⟩⟩
    · clear hp
      go_simp
      with_reducible refine hK9 _ ?_
      exact ⟨hs.1, fun h => by
        obtain ⟨b, d, h1, h2, h3, h4⟩ := hs.2.1 (by simpa [setL] using h)
        exact ⟨b, d, by simpa [updV] using h1, h2, h3, h4⟩, fun h => by
        obtain ⟨h1, h2⟩ := hs.2.2 (by simpa [setL] using h)
        exact ⟨by simpa [setL] using h1, by simpa [updV] using h2⟩⟩
    · have s4 : w9.cell? ⟨bM, 4, none⟩ = some (.int .i64 kk) := by rw [(bcell hs.1).1 _ _ hlt]; exact r4
      clear hp
      go_simp
      with_reducible refine hK9 _ ?_
      exact ⟨hs.1, fun h => by
        obtain ⟨b, d, h1, h2, h3, h4⟩ := hs.2.1 (by simpa [setL] using h)
        exact ⟨b, d, by simpa [updV] using h1, h2, h3, h4⟩, fun h => by
        obtain ⟨h1, h2⟩ := hs.2.2 (by simpa [setL] using h)
        exact ⟨by simpa [setL] using h1, by simpa [updV] using h2⟩⟩
    · have h7 : L 7 = true := allL_mem hp 7 (by decide +kernel)
      obtain ⟨b, d, hx7, hbn7, hf7, hnb7⟩ := hs.2.1 h7
      clear hp
      rw [hx7] at hK9 ⊢
      go_simp
      with_reducible refine hK9 _ _ ?_
      exact ⟨hs.1, fun _ => ⟨b, d, by simpa [updV] using hx7, hbn7, hf7, hnb7⟩, fun _ => ⟨by simpa [setL] using h7, by simp [updV, hx7]⟩⟩
  intro L x w9 hS hL
  have hs : Below w1.heap.size w1 w9 ∧ (L 7 = true → ∃ b d, x 7 = .slice b m d ∧ (b = none → d = 0 ∧ FF = []) ∧ IsFlds w9 b d FF ∧ (∀ ad, b = some ad → w1.heap.size ≤ ad.block)) ∧ (L 13 = true → L 7 = true ∧ x 13 = .agg #[.int .i64 kc, .string t2, x 7, .string b2, .int .i64 kk]) := hS
  obtain ⟨b, d, hx7, hbn7, hf7, hnb7⟩ := hs.2.1 (hL 7 (by decide))
  have hx12 := (hs.2.2 (hL 13 (by decide))).2
  have hb9 := hs.1
  clear hS hL hs
  simp only [actMix, pickV, List.tail_cons, List.headD_cons, Act.put, List.setIfInBounds_toArray, List.set_cons_zero, List.set_cons_succ, List.replicate_succ, List.replicate_zero, List.drop_succ_cons, List.drop_zero, List.take_succ_cons, List.take_zero]
  rw [hx7] at hx12 ⊢
  rw [hx12]
  have Q := RR.out.below hb9
  have HB9 := Lib.hid (HL1.out.trans (hb9.mono HL1.out.size))
  have HF9 := Lib.hid hf7
  have HBN := Lib.hid hbn7
  have z0 := Q.free 0
  have z1 := Q.free 1
  have z2 := Q.free 2
  have z3 := Q.free 3
  have z4 := Q.free 4
  have p0 : w9.cell? ⟨bR, 0, none⟩ = some (.int .i64 0) := Q.cell 0
  have p1 : w9.cell? ⟨bR, 1, none⟩ = some (.string ⟨#[]⟩) := Q.cell 1
  have p2 : w9.cell? ⟨bR, 2, none⟩ = some (.slice none 0 0) := Q.cell 2
  have p3 : w9.cell? ⟨bR, 3, none⟩ = some (.string ⟨#[]⟩) := Q.cell 3
  have p4 : w9.cell? ⟨bR, 4, none⟩ = some (.int .i64 0) := Q.cell 4
  have HNB : Hid (∀ ad, b = some ad → ¬ ad.block = bR) := fun ad had => by have := hnb7 ad had; have := RR.out.lt; omega
  clear hx7 hx12 hf7 hnb7 hb9 Q hbn7
  go_wp2_with fail
  refine bodyPost_ret (v := .agg #[.int .i64 kc, .string t2, .slice b m d, .string b2, .int .i64 kk]) (by simp [results, Tryz.results26, go_sem, p0, p1, p2, p3, p4]) rfl ⟨b, d, by rw [HMM.out], HBN.out, ?_⟩
  have h5 := own_five bR _ HB9.out hbR0 (.int .i64 kc) (.string t2) (.slice b m d) (.string b2) (.int .i64 kk)
  exact ⟨isFlds_keepR HF9.out h5.2 HNB.out, h5.1⟩
end Go.Proofs.YtbbphklhnngjmaaGreatDoor

/- What serves the walk of the statement RewriteAnswers (written by genlawra.py). -/
namespace Go.Proofs.YtbbphklhnngjmaaGreatDoor
open Go.RowKit

theorem run_fld0 (c : Int) (r : ByteArray) (b : Option Addr) (n d : Nat) (s : ByteArray) (k : Int) (w : World) : (Instr.field 33 (.agg #[.int .i64 c, .string r, .slice b n d, .string s, .int .i64 k]) 0).run Tryz.prog w = .ok (.agg #[.int .i64 c, .string r]) w := by kernel_rfl
theorem run_fldS (c : Int) (r : ByteArray) (w : World) : (Instr.field 29 (.agg #[.int .i64 c, .string r]) 0).run Tryz.prog w = .ok (.int .i64 c) w := by kernel_rfl
theorem resp_ok (q cl : Bool) (FS : List Fld) (bl : Nat) (hl : FS.length ≤ 8) (hz : ∀ f ∈ FS, f.1.length ≤ 20 ∧ f.2.length ≤ 40) : ∀ f ∈ respF q FS bl cl, FldOk f := by
  have h := (resp_text q cl FS bl hl hz).1
  generalize respF q FS bl cl = GS at *
  intro f hf
  have hle : f.1.length + f.2.length ≤ (textL GS).length := by
    clear h
    induction GS with
    | nil => cases hf
    | cons a r ih =>
      rw [textL_len]
      simp only [List.length_append, List.length_cons, List.length_nil]
      rcases List.mem_cons.1 hf with rfl | hf
      · omega
      · have := ih hf; omega
  exact ⟨by omega, by omega⟩
end Go.Proofs.YtbbphklhnngjmaaGreatDoor

