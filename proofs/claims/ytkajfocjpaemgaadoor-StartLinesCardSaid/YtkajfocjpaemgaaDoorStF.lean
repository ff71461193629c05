/- start: Status.Line; the reference's StatusLine. -/
import Derived.Test.YtkajfocjpaemgaaDoorStE
import Derived.Test.YtkajfocjpaemgaaDoorRegT
namespace Go.Proofs.YtkajfocjpaemgaaDoor
open Go.RowKit

theorem prtI_short (n : Int) : (prtI 10 n).length ≤ 65 := by
  unfold prtI prt
  have := prtF_len 10 64 n.toNat
  omega
theorem itoa_i (n : Int) (h0 : 0 ≤ n) (hn : n < 9223372036854775808) (w : World) (hw : Pow w) :
    Calls Tryd.prog 39 #[.int .i64 n] w fun e w' => e = .returned (.string (bs (prtI 10 n))) ∧ Below w.heap.size w w' := by
  obtain ⟨U, rfl⟩ := Int.eq_ofNat_of_zero_le h0
  exact itoa66 U (by omega) w hw
set_option maxRecDepth 100000 in
set_option maxHeartbeats 4000000 in
theorem sline15 (c : Int) (r : List UInt8) (hr : r.length ≤ 4000000000) (w : World) (hw : Pow w) :
    Calls Tryd.prog 15 #[.agg #[.int .i64 c, .string (bs r)]] w fun e w' => e = .returned (.string (bs (stLine (c, r)))) ∧ Below w.heap.size w w' := by
  have hK0 : codeT c < 9223372036854775808 := by unfold codeT; omega
  have A2 := fun V => add_str pfxL (prtI 10 (codeT c)) (by have := prtI_short (codeT c); simp [pfxL]; omega) V
  have A3 := fun V => add_str (pfxL ++ prtI 10 (codeT c)) [32] (by have := prtI_short (codeT c); simp [pfxL]; omega) V
  have A4 := fun V => add_str (pfxL ++ prtI 10 (codeT c) ++ [32]) r (by have := prtI_short (codeT c); simp [pfxL]; omega) V
  have A5 := fun V => add_str (pfxL ++ prtI 10 (codeT c) ++ [32] ++ r) [13, 10] (by have := prtI_short (codeT c); simp [pfxL]; omega) V
  have e32 : bs [32] = ⟨#[32]⟩ := rfl
  have ep : bs pfxL = ⟨#[72, 84, 84, 80, 47, 49, 46, 49, 32]⟩ := rfl
  have e13 : bs [13, 10] = ⟨#[13, 10]⟩ := rfl
  rw [ep] at A2
  rw [e32] at A3
  rw [e13] at A5
  have hl : stLine (c, r) = pfxL ++ prtI 10 (codeT c) ++ [32] ++ r ++ [13, 10] := rfl
  rw [hl]
  obtain ⟨K, hKc⟩ : ∃ K, codeT c = K := ⟨_, rfl⟩
  rw [hKc] at A2 A3 A4 A5 hK0 ⊢
  have HD : Hid (∀ W, Pow W → Calls Tryd.prog 38 #[.int .i64 K] W fun e w' => e = .returned (.string (bs (prtI 10 K))) ∧ Below W.heap.size W w') := fun W hW => digits28 K hK0 W hW
  have hmm : min (max c 200) 599 = K := hKc
  have hP := Lib.hid (hw.below (below_alloc w (.cells #[.int .i64 c, .string (bs r)] 36)))
  have L0 := Lib.hid (below_alloc w (.cells #[.int .i64 c, .string (bs r)] 36))
  have p0 : (w.alloc (.cells #[.int .i64 c, .string (bs r)] 36)).cell? ⟨w.heap.size, 0, none⟩ = some (.int .i64 c) := by simp
  have p1 : (w.alloc (.cells #[.int .i64 c, .string (bs r)] 36)).cell? ⟨w.heap.size, 1, none⟩ = some (.string (bs r)) := by simp
  have pz : w.heap.size < (w.alloc (.cells #[.int .i64 c, .string (bs r)] 36)).heap.size := by simp
  generalize hx5 : bs (pfxL ++ prtI 10 K ++ [32] ++ r ++ [13, 10]) = X5 at *
  generalize hx4 : bs (pfxL ++ prtI 10 K ++ [32] ++ r) = X4 at *
  generalize hx3 : bs (pfxL ++ prtI 10 K ++ [32]) = X3 at *
  generalize hx2 : bs (pfxL ++ prtI 10 K) = X2 at *
  generalize hx1 : bs (prtI 10 K) = X1 at *
  generalize hx0 : bs r = X0 at *
  clear hx5 hx4 hx3 hx2 hx1 hx0 e32 ep e13 hl hw hr hK0
  go_enter Tryd.func15, Tryd.ntmps15
  go_wp2_with fail
  have P0 := Lib.hid p0
  have P1 := Lib.hid p1
  have PZ := Lib.hid pz
  clear p0 p1 pz
  generalize World.alloc w _ = W at *
  generalize hBB : w.heap.size = B at *
  refine region_mixt 8 [some (.int .i64 K), some (.string X1), some (.string X2), some (.string X3), some (.pointer (some ⟨B, 1, none⟩)), some (.string X0), some (.string X4), some (.string X5)]
    [[false, false, false, false, false, false, false, false], [true, false, false, false, false, false, false, false], [false, true, false, false, false, false, false, false], [false, false, true, false, false, false, false, false], [false, false, false, false, false, false, false, false], [false, false, false, false, true, false, false, false], [false, false, false, true, false, true, false, false], [false, false, false, false, false, false, true, false]]
    (fun L x w1 => Below W.heap.size W w1)
    (by kernel_rfl) (by kernel_rfl) (by kernel_rfl) (by kernel_rfl) (by kernel_rfl) (by decide) ?_ ?_ ?_
  · intro _
    exact (Below.refl _ _).drew
  · simp only [List.take_succ_cons, List.take_zero]
    refine ⟨?_, ?_, ?_, ?_, ?_, ?_, ?_, ?_, trivial⟩
    all_goals
      intro L x w9 hS hl hp K9 hK9
      have hs : Below W.heap.size W w9 := hS
      have q0 : w9.cell? ⟨B, 0, none⟩ = some (.int .i64 c) := by rw [(bcell hs).1 _ _ PZ.out]; exact P0.out
      have q1 : w9.cell? ⟨B, 1, none⟩ = some (.string X0) := by rw [(bcell hs).1 _ _ PZ.out]; exact P1.out
      clear hS hp hl
      replace hK9 := hK9.out
      simp only [actMix, pickV, List.tail_cons, List.headD_cons, Act.put, List.setIfInBounds_toArray, List.set_cons_zero, List.set_cons_succ] at hK9 ⊢
    · go_simp
      with_reducible refine hK9 _ ?_
      exact hs
    · go_simp
      refine (HD.out w9 (hP.out.below hs)).mono ?_
      rintro e w8 ⟨rfl, hb8⟩
      with_reducible refine hK9 _ ?_
      exact hs.trans (hb8.mono hs.size)
    · go_simp
      with_reducible refine hK9 _ ?_
      exact hs
    · go_simp
      with_reducible refine hK9 _ ?_
      exact hs
    · go_simp
      with_reducible refine hK9 _ ?_
      exact hs
    · go_simp
      with_reducible refine hK9 _ ?_
      exact hs
    · go_simp
      with_reducible refine hK9 _ ?_
      exact hs
    · go_simp
      with_reducible refine hK9 _ ?_
      exact hs
  · intro L x w9 hS hL
    have hs : Below W.heap.size W w9 := hS
    clear hS hL
    simp only [actMix, pickV, List.tail_cons, List.headD_cons, Act.put, List.setIfInBounds_toArray, List.set_cons_zero, List.set_cons_succ, List.replicate_succ, List.replicate_zero, List.drop_succ_cons, List.drop_zero, List.take_succ_cons, List.take_zero]
    go_wp2_with fail
    go_ret
    exact ⟨rfl, by rw [hBB]; exact L0.out.trans (hs.mono (by rw [← hBB]; exact L0.out.size))⟩
set_option maxRecDepth 100000 in
set_option maxHeartbeats 4000000 in
theorem rsline16 (c : Int) (r : List UInt8) (hr : r.length ≤ 4000000000) (w : World) (hw : Pow w) :
    Calls Tryd.prog 16 #[.agg #[.int .i64 c, .string (bs r)]] w fun e w' => e = .returned (.string (bs (stLine (c, r)))) ∧ Below w.heap.size w w' := by
  have hK0 : codeT c < 9223372036854775808 := by unfold codeT; omega
  have A2 := fun V => add_str pfxL (prtI 10 (codeT c)) (by have := prtI_short (codeT c); simp [pfxL]; omega) V
  have A3 := fun V => add_str (pfxL ++ prtI 10 (codeT c)) [32] (by have := prtI_short (codeT c); simp [pfxL]; omega) V
  have A4 := fun V => add_str (pfxL ++ prtI 10 (codeT c) ++ [32]) r (by have := prtI_short (codeT c); simp [pfxL]; omega) V
  have A5 := fun V => add_str (pfxL ++ prtI 10 (codeT c) ++ [32] ++ r) [13, 10] (by have := prtI_short (codeT c); simp [pfxL]; omega) V
  have e32 : bs [32] = ⟨#[32]⟩ := rfl
  have ep : bs pfxL = ⟨#[72, 84, 84, 80, 47, 49, 46, 49, 32]⟩ := rfl
  have e13 : bs [13, 10] = ⟨#[13, 10]⟩ := rfl
  rw [ep] at A2
  rw [e32] at A3
  rw [e13] at A5
  have hl : stLine (c, r) = pfxL ++ prtI 10 (codeT c) ++ [32] ++ r ++ [13, 10] := rfl
  rw [hl]
  obtain ⟨K, hKc⟩ : ∃ K, codeT c = K := ⟨_, rfl⟩
  rw [hKc] at A2 A3 A4 A5 hK0 ⊢
  have hKp : 0 ≤ K := by rw [← hKc]; unfold codeT; omega
  have HD : Hid (∀ W, Pow W → Calls Tryd.prog 39 #[.int .i64 K] W fun e w' => e = .returned (.string (bs (prtI 10 K))) ∧ Below W.heap.size W w') := fun W hW => itoa_i K hKp hK0 W hW
  obtain ⟨M5, hm5⟩ : ∃ M5, min c 599 = M5 := ⟨_, rfl⟩
  have hm6 : max 200 M5 = K := by rw [← hm5, ← hKc]; unfold codeT; omega
  clear hKp
  have hP := Lib.hid (hw.below (below_alloc w (.cells #[.int .i64 c, .string (bs r)] 39)))
  have L0 := Lib.hid (below_alloc w (.cells #[.int .i64 c, .string (bs r)] 39))
  have p0 : (w.alloc (.cells #[.int .i64 c, .string (bs r)] 39)).cell? ⟨w.heap.size, 0, none⟩ = some (.int .i64 c) := by simp
  have p1 : (w.alloc (.cells #[.int .i64 c, .string (bs r)] 39)).cell? ⟨w.heap.size, 1, none⟩ = some (.string (bs r)) := by simp
  have pz : w.heap.size < (w.alloc (.cells #[.int .i64 c, .string (bs r)] 39)).heap.size := by simp
  generalize hx5 : bs (pfxL ++ prtI 10 K ++ [32] ++ r ++ [13, 10]) = X5 at *
  generalize hx4 : bs (pfxL ++ prtI 10 K ++ [32] ++ r) = X4 at *
  generalize hx3 : bs (pfxL ++ prtI 10 K ++ [32]) = X3 at *
  generalize hx2 : bs (pfxL ++ prtI 10 K) = X2 at *
  generalize hx1 : bs (prtI 10 K) = X1 at *
  generalize hx0 : bs r = X0 at *
  clear hx5 hx4 hx3 hx2 hx1 hx0 e32 ep e13 hl hw hr hK0
  go_enter Tryd.func16, Tryd.ntmps16
  go_wp2_with fail
  have P0 := Lib.hid p0
  have P1 := Lib.hid p1
  have PZ := Lib.hid pz
  clear p0 p1 pz
  generalize World.alloc w _ = W at *
  generalize hBB : w.heap.size = B at *
  refine region_mixt 11 [some (.pointer (some ⟨B, 0, none⟩)), some (.int .i64 c), some (.int .i64 M5), some (.int .i64 K), some (.string X1), some (.string X2), some (.string X3), some (.pointer (some ⟨B, 1, none⟩)), some (.string X0), some (.string X4), some (.string X5)]
    [[false, false, false, false, false, false, false, false, false, false, false], [true, false, false, false, false, false, false, false, false, false, false], [false, true, false, false, false, false, false, false, false, false, false], [false, false, true, false, false, false, false, false, false, false, false], [false, false, false, true, false, false, false, false, false, false, false], [false, false, false, false, true, false, false, false, false, false, false], [false, false, false, false, false, true, false, false, false, false, false], [false, false, false, false, false, false, false, false, false, false, false], [false, false, false, false, false, false, false, true, false, false, false], [false, false, false, false, false, false, true, false, true, false, false], [false, false, false, false, false, false, false, false, false, true, false]]
    (fun L x w1 => Below W.heap.size W w1)
    (by kernel_rfl) (by kernel_rfl) (by kernel_rfl) (by kernel_rfl) (by kernel_rfl) (by decide) ?_ ?_ ?_
  · intro _
    exact (Below.refl _ _).drew
  · simp only [List.take_succ_cons, List.take_zero]
    refine ⟨?_, ?_, ?_, ?_, ?_, ?_, ?_, ?_, ?_, ?_, ?_, trivial⟩
    all_goals
      intro L x w9 hS hl hp K9 hK9
      have hs : Below W.heap.size W w9 := hS
      have q0 : w9.cell? ⟨B, 0, none⟩ = some (.int .i64 c) := by rw [(bcell hs).1 _ _ PZ.out]; exact P0.out
      have q1 : w9.cell? ⟨B, 1, none⟩ = some (.string X0) := by rw [(bcell hs).1 _ _ PZ.out]; exact P1.out
      clear hS hp hl
      replace hK9 := hK9.out
      simp only [actMix, pickV, List.tail_cons, List.headD_cons, Act.put, List.setIfInBounds_toArray, List.set_cons_zero, List.set_cons_succ] at hK9 ⊢
    · go_simp
      with_reducible refine hK9 _ ?_
      exact hs
    · go_simp
      with_reducible refine hK9 _ ?_
      exact hs
    · go_simp
      with_reducible refine hK9 _ ?_
      exact hs
    · go_simp
      with_reducible refine hK9 _ ?_
      exact hs
    · go_simp
      refine (HD.out w9 (hP.out.below hs)).mono ?_
      rintro e w8 ⟨rfl, hb8⟩
      with_reducible refine hK9 _ ?_
      exact hs.trans (hb8.mono hs.size)
    · go_simp
      with_reducible refine hK9 _ ?_
      exact hs
    · go_simp
      with_reducible refine hK9 _ ?_
      exact hs
    · go_simp
      with_reducible refine hK9 _ ?_
      exact hs
    · go_simp
      with_reducible refine hK9 _ ?_
      exact hs
    · go_simp
      with_reducible refine hK9 _ ?_
      exact hs
    · go_simp
      with_reducible refine hK9 _ ?_
      exact hs
  · intro L x w9 hS hL
    have hs : Below W.heap.size W w9 := hS
    clear hS hL
    simp only [actMix, pickV, List.tail_cons, List.headD_cons, Act.put, List.setIfInBounds_toArray, List.set_cons_zero, List.set_cons_succ, List.replicate_succ, List.replicate_zero, List.drop_succ_cons, List.drop_zero, List.take_succ_cons, List.take_zero]
    go_wp2_with fail
    go_ret
    exact ⟨rfl, by rw [hBB]; exact L0.out.trans (hs.mono (by rw [← hBB]; exact L0.out.size))⟩
end Go.Proofs.YtkajfocjpaemgaaDoor
