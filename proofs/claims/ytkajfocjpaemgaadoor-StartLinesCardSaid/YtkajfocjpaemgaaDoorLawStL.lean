/- The walk of the statement StartLines. -/
import Derived.Test.YtkajfocjpaemgaaDoorLawStS
namespace Go.Proofs.YtkajfocjpaemgaaDoor
open Go.RowKit

set_option maxRecDepth 1000000 in
set_option maxHeartbeats 80000000 in
theorem lawStartLines (k n r0 : ByteArray) (c : Int) (w : World) (hw : LaidS w) :
    Calls Tryd.prog 5 #[.agg #[.string k, .string n, .string r0, .int .i64 c]] w fun e w' => e = .returned (.bool true) ∧ Below w.heap.size w w' := by
  have L0 := below_alloc w (.cells #[.string k, .string n, .string r0, .int .i64 c] 44)
  have HW := Lib.hid (hw.below L0)
  have p0 : (w.alloc (.cells #[.string k, .string n, .string r0, .int .i64 c] 44)).cell? ⟨w.heap.size, 0, none⟩ = some (.string k) := by simp
  have p1 : (w.alloc (.cells #[.string k, .string n, .string r0, .int .i64 c] 44)).cell? ⟨w.heap.size, 1, none⟩ = some (.string n) := by simp
  have p2 : (w.alloc (.cells #[.string k, .string n, .string r0, .int .i64 c] 44)).cell? ⟨w.heap.size, 2, none⟩ = some (.string r0) := by simp
  have p3 : (w.alloc (.cells #[.string k, .string n, .string r0, .int .i64 c] 44)).cell? ⟨w.heap.size, 3, none⟩ = some (.int .i64 c) := by simp
  have pz : w.heap.size < (w.alloc (.cells #[.string k, .string n, .string r0, .int .i64 c] 44)).heap.size := by simp
  clear hw
  go_enter Tryd.func5, Tryd.ntmps5
  go_wp2_with fail
  generalize World.alloc w _ = w0 at *
  refine (awake7 w0 HW.out).mono ?_
  rintro e w1 ⟨rfl, hb1⟩
  have c0 : w1.cell? ⟨w.heap.size, 0, none⟩ = some (.string k) := by rw [(bcell hb1).1 _ _ pz, p0]
  have c1 : w1.cell? ⟨w.heap.size, 1, none⟩ = some (.string n) := by rw [(bcell hb1).1 _ _ pz, p1]
  have c2 : w1.cell? ⟨w.heap.size, 2, none⟩ = some (.string r0) := by rw [(bcell hb1).1 _ _ pz, p2]
  have c3 : w1.cell? ⟨w.heap.size, 3, none⟩ = some (.int .i64 c) := by rw [(bcell hb1).1 _ _ pz, p3]
  have W1 : Hid (LaidS w1) := HW.out.below hb1
  have b1 := L0.trans (hb1.mono L0.size)
  clear p0 p1 p2 p3 pz HW hb1 L0
  have H1 := Lib.hid (fun V => cut11 k 70 V)
  have H2 := Lib.hid (fun V => cut11 n 40 V)
  have H3 := Lib.hid (fun V => cut11 r0 40 V)
  have z1 := cutS_size k 70
  have z2 := cutS_size n 40
  have z3 := cutS_size r0 40
  obtain ⟨m, hm⟩ : ∃ m, (cutS k 70).data.toList = m := ⟨_, rfl⟩
  obtain ⟨tt, ht⟩ : ∃ m, (cutS n 40).data.toList = m := ⟨_, rfl⟩
  obtain ⟨r, hr⟩ : ∃ m, (cutS r0 40).data.toList = m := ⟨_, rfl⟩
  have em : cutS k 70 = bs m := by rw [← hm, bs_of]
  have et : cutS n 40 = bs tt := by rw [← ht, bs_of]
  have er : cutS r0 40 = bs r := by rw [← hr, bs_of]
  rw [em, bs_size] at z1
  rw [et, bs_size] at z2
  rw [er, bs_size] at z3
  simp only [em] at H1
  simp only [et] at H2
  simp only [er] at H3
  clear hm ht hr em et er
  -- what comes of the texts
  obtain ⟨z, V0, V1, qz, hzz, hzq, hpr⟩ : ∃ (z : Int) (V0 V1 : ByteArray) (qz : Bool), (if tokB m = true ∧ tgtB tt = true then (0 : Int) else 2) = z ∧ (z == 0) = qz ∧ reqO (reqP (m ++ [32] ++ tt ++ sfxL)) = .tuple #[.agg #[.string V0, .string V1], .int .i64 z] := by
    have e : m ++ [32] ++ tt ++ sfxL = m ++ 32 :: (tt ++ sfxL) := by simp
    rw [e, req_line]
    by_cases h : tokB m = true ∧ tgtB tt = true
    · exact ⟨0, bs m, bs tt, true, by rw [if_pos h], rfl, by rw [if_pos h]; rfl⟩
    · exact ⟨2, ⟨#[]⟩, ⟨#[]⟩, false, by rw [if_neg h], rfl, by rw [if_neg h]; rfl⟩
  have HPR : Hid (∀ V, LaidS V → Calls Tryd.prog 9 #[.string (bs (m ++ [32] ++ tt ++ sfxL))] V fun e w' => e = .returned (.tuple #[.agg #[.string V0, .string V1], .int .i64 z]) ∧ Below V.heap.size V w') := fun V hV => by
    have h := preq9 (bs (m ++ [32] ++ tt ++ sfxL)) (by rw [bs_size]; simp [sfxL]; omega) V hV.1
    rwa [bs_list, hpr] at h
  have HL := Lib.hid (fun V => rline11 m tt (by omega) (by omega) V)
  have HRL := Lib.hid (fun V => rrline17 m tt (by omega) (by omega) V)
  have HSL : Hid (∀ V, LaidS V → Calls Tryd.prog 15 #[.agg #[.int .i64 c, .string (bs r)]] V fun e w' => e = .returned (.string (bs (stLine (c, r)))) ∧ Below V.heap.size V w') := fun V hV => sline15 c r (by omega) V hV.2.2.1
  have HRS : Hid (∀ V, LaidS V → Calls Tryd.prog 16 #[.agg #[.int .i64 c, .string (bs r)]] V fun e w' => e = .returned (.string (bs (stLine (c, r)))) ∧ Below V.heap.size V w') := fun V hV => rsline16 c r (by omega) V hV.2.2.1
  have HI := Lib.hid (fun V => idem18 m tt V)
  have HRI := Lib.hid (fun V => ridem19 m V)
  have HP : Hid (∀ V, LaidS V → Calls Tryd.prog 20 #[.agg #[.string (bs m), .string (bs tt)]] V fun e w' => e = .returned (.string (bs (pathL tt))) ∧ Below V.heap.size V w') := fun V hV => path20 m tt (by omega) V hV.1
  have HRP : Hid (∀ V, Calls Tryd.prog 21 #[.string (bs tt)] V fun e w' => e = .returned (.string (bs (pathL tt))) ∧ V = w') := fun V => rpath21 (bs tt) (by rw [bs_size]; omega) V
  have HK := Lib.hid (fun V => check12 m tt (by omega) (by omega) z hzz V)
  have A1 := fun V => add_str m [32] (by simp; omega) V
  have A2 := fun V => add_str (m ++ [32]) tt (by simp; omega) V
  have A3 := fun V => add_str (m ++ [32] ++ tt) sfxL (by simp [sfxL]; omega) V
  have e32 : bs [32] = ⟨#[32]⟩ := rfl
  have ef : bs sfxL = ⟨#[32, 72, 84, 84, 80, 47, 49, 46, 49]⟩ := rfl
  rw [e32] at A1
  rw [ef] at A3
  clear hzz hpr z1 z2 z3 e32 ef
  generalize bs (m ++ [32] ++ tt ++ sfxL) = X3 at *
  generalize bs (m ++ [32] ++ tt) = X2 at *
  generalize bs (m ++ [32]) = X1 at *
  generalize bs (reqLine (m, tt)) = RL at *
  generalize bs (stLine (c, r)) = SL at *
  generalize bs (pathL tt) = PA at *
  generalize idemB m = qi at *
  generalize bs m = M at *
  generalize bs tt = T at *
  generalize bs r = RR at *
  have eRL := self_strS RL
  have eSL := self_strS SL
  have ePA := self_strS PA
  go_wp2_with fail
  go_quiet (first | (go_at_call 8; with_reducible exact Calls.quiet_of_same (calls_flip (H1.out _))) | (go_at_call 8; with_reducible exact Calls.quiet_of_same (calls_flip (H2.out _))) | (go_at_call 8; with_reducible exact Calls.quiet_of_same (calls_flip (H3.out _))))
  have W1n : Hid (LaidS (w1.drewN nq)) := W1.out.below ⟨rfl, rfl, rfl, Nat.le_refl _, fun _ _ => rfl⟩
  have b1n : Below w.heap.size w (w1.drewN nq) := b1.trans ⟨rfl, rfl, rfl, Nat.le_refl _, fun _ _ => rfl⟩
  clear c0 c1 c2 c3 H1 H2 H3 W1 b1
  generalize World.drewN w1 _ = v1 at *
  have L1 := below_alloc v1 (.cells #[.string M, .string T] 25)
  have L2 := below_alloc (v1.alloc (.cells #[.string M, .string T] 25)) (.cells #[.int .i64 c, .string RR] 36)
  have hsz : (v1.alloc (.cells #[.string M, .string T] 25)).heap.size = v1.heap.size + 1 := by simp
  have hsz2 : ((v1.alloc (.cells #[.string M, .string T] 25)).alloc (.cells #[.int .i64 c, .string RR] 36)).heap.size = v1.heap.size + 2 := by simp
  have d0 : ((v1.alloc (.cells #[.string M, .string T] 25)).alloc (.cells #[.int .i64 c, .string RR] 36)).cell? ⟨v1.heap.size, 0, none⟩ = some (.string M) := by rw [(bcell L2).1 _ _ (by omega)]; simp
  have d1 : ((v1.alloc (.cells #[.string M, .string T] 25)).alloc (.cells #[.int .i64 c, .string RR] 36)).cell? ⟨v1.heap.size, 1, none⟩ = some (.string T) := by rw [(bcell L2).1 _ _ (by omega)]; simp
  have d2 : ((v1.alloc (.cells #[.string M, .string T] 25)).alloc (.cells #[.int .i64 c, .string RR] 36)).cell? ⟨v1.heap.size + 1, 0, none⟩ = some (.int .i64 c) := by rw [← hsz]; simp
  have d3 : ((v1.alloc (.cells #[.string M, .string T] 25)).alloc (.cells #[.int .i64 c, .string RR] 36)).cell? ⟨v1.heap.size + 1, 1, none⟩ = some (.string RR) := by rw [← hsz]; simp
  have W2 : Hid (LaidS ((v1.alloc (.cells #[.string M, .string T] 25)).alloc (.cells #[.int .i64 c, .string RR] 36))) := (W1n.out.below L1).below L2
  have b2 := (b1n.trans (L1.mono b1n.size)).trans (L2.mono (Nat.le_trans b1n.size L1.size))
  clear L1 L2 W1n b1n
  go_wp2_with fail
  generalize World.alloc (World.alloc v1 _) _ = v2 at *
  refine (HPR.out v2 W2.out).mono ?_
  rintro e v3 ⟨rfl, hb3⟩
  have f0 : v3.cell? ⟨v1.heap.size, 0, none⟩ = some (.string M) := by rw [(bcell hb3).1 _ _ (by omega), d0]
  have f1 : v3.cell? ⟨v1.heap.size, 1, none⟩ = some (.string T) := by rw [(bcell hb3).1 _ _ (by omega), d1]
  have f2 : v3.cell? ⟨v1.heap.size + 1, 0, none⟩ = some (.int .i64 c) := by rw [(bcell hb3).1 _ _ (by omega), d2]
  have f3 : v3.cell? ⟨v1.heap.size + 1, 1, none⟩ = some (.string RR) := by rw [(bcell hb3).1 _ _ (by omega), d3]
  have hs3 := hb3.size
  have W3 : Hid (LaidS v3) := W2.out.below hb3
  have b3 := b2.trans (hb3.mono b2.size)
  clear d0 d1 d2 d3 W2 b2 hb3 HPR
  have L3 := below_alloc v3 (.cells #[.string V0, .string V1] 25)
  have g0 : (v3.alloc (.cells #[.string V0, .string V1] 25)).cell? ⟨v1.heap.size, 0, none⟩ = some (.string M) := by rw [(bcell L3).1 _ _ (by omega), f0]
  have g1 : (v3.alloc (.cells #[.string V0, .string V1] 25)).cell? ⟨v1.heap.size, 1, none⟩ = some (.string T) := by rw [(bcell L3).1 _ _ (by omega), f1]
  have g2 : (v3.alloc (.cells #[.string V0, .string V1] 25)).cell? ⟨v1.heap.size + 1, 0, none⟩ = some (.int .i64 c) := by rw [(bcell L3).1 _ _ (by omega), f2]
  have g3 : (v3.alloc (.cells #[.string V0, .string V1] 25)).cell? ⟨v1.heap.size + 1, 1, none⟩ = some (.string RR) := by rw [(bcell L3).1 _ _ (by omega), f3]
  have hs4 : v1.heap.size + 2 ≤ (v3.alloc (.cells #[.string V0, .string V1] 25)).heap.size := by simp; omega
  have W4 : Hid (LaidS (v3.alloc (.cells #[.string V0, .string V1] 25))) := W3.out.below L3
  have b4 := b3.trans (L3.mono b3.size)
  clear f0 f1 f2 f3 W3 b3 L3 hs3 hsz hsz2
  go_wp2_with fail
  have G0 := Lib.hid g0
  have G1 := Lib.hid g1
  have G2 := Lib.hid g2
  have G3 := Lib.hid g3
  have G4 := Lib.hid hs4
  have B4 := Lib.hid b4
  clear g0 g1 g2 g3 hs4 b4
  generalize World.alloc v3 _ = W at *
  generalize v1.heap.size = B at *
  refine region_mixt 34 [some (.agg #[.string M, .string T]), some (.string RL), some (.agg #[.string M, .string T]), some (.string RL), some (.bool true), some (.bool true), some (.agg #[.int .i64 c, .string RR]), some (.string SL), some (.agg #[.int .i64 c, .string RR]), some (.string SL), some (.bool true), some (.bool true), some (.bool true), some (.agg #[.string M, .string T]), some (.bool qi), some (.string M), some (.bool qi), some (.bool true), some (.bool true), some (.bool true), some (.agg #[.string M, .string T]), some (.string PA), some (.string T), some (.string PA), some (.bool true), some (.bool true), some (.bool true), some (.agg #[.string M, .string T]), some (.int .i64 z), some (.bool qz), some (.int .i64 z), some (.bool qz), some (.bool true), some (.bool true)]
    [[false, false, false, false, false, false, false, false, false, false, false, false, false, false, false, false, false, false, false, false, false, false, false, false, false, false, false, false, false, false, false, false, false, false], [true, false, false, false, false, false, false, false, false, false, false, false, false, false, false, false, false, false, false, false, false, false, false, false, false, false, false, false, false, false, false, false, false, false], [false, false, false, false, false, false, false, false, false, false, false, false, false, false, false, false, false, false, false, false, false, false, false, false, false, false, false, false, false, false, false, false, false, false], [false, true, true, false, false, false, false, false, false, false, false, false, false, false, false, false, false, false, false, false, false, false, false, false, false, false, false, false, false, false, false, false, false, false], [false, true, false, true, false, false, false, false, false, false, false, false, false, false, false, false, false, false, false, false, false, false, false, false, false, false, false, false, false, false, false, false, false, false], [false, false, false, true, true, false, false, false, false, false, false, false, false, false, false, false, false, false, false, false, false, false, false, false, false, false, false, false, false, false, false, false, false, false], [false, false, false, false, false, true, false, false, false, false, false, false, false, false, false, false, false, false, false, false, false, false, false, false, false, false, false, false, false, false, false, false, false, false], [false, false, false, false, false, true, true, false, false, false, false, false, false, false, false, false, false, false, false, false, false, false, false, false, false, false, false, false, false, false, false, false, false, false], [false, false, false, false, false, true, false, false, false, false, false, false, false, false, false, false, false, false, false, false, false, false, false, false, false, false, false, false, false, false, false, false, false, false], [false, false, false, false, false, true, false, true, true, false, false, false, false, false, false, false, false, false, false, false, false, false, false, false, false, false, false, false, false, false, false, false, false, false], [false, false, false, false, false, true, false, true, false, true, false, false, false, false, false, false, false, false, false, false, false, false, false, false, false, false, false, false, false, false, false, false, false, false], [false, false, false, false, false, true, false, false, false, false, true, false, false, false, false, false, false, false, false, false, false, false, false, false, false, false, false, false, false, false, false, false, false, false], [false, false, false, false, false, false, false, false, false, true, false, true, false, false, false, false, false, false, false, false, false, false, false, false, false, false, false, false, false, false, false, false, false, false], [false, false, false, false, false, false, false, false, false, false, false, false, true, false, false, false, false, false, false, false, false, false, false, false, false, false, false, false, false, false, false, false, false, false], [false, false, false, false, false, false, false, false, false, false, false, false, true, true, false, false, false, false, false, false, false, false, false, false, false, false, false, false, false, false, false, false, false, false], [false, false, false, false, false, false, false, false, false, false, false, false, true, false, false, false, false, false, false, false, false, false, false, false, false, false, false, false, false, false, false, false, false, false], [false, false, false, false, false, false, false, false, false, false, false, false, true, false, true, true, false, false, false, false, false, false, false, false, false, false, false, false, false, false, false, false, false, false], [false, false, false, false, false, false, false, false, false, false, false, false, true, false, true, false, true, false, false, false, false, false, false, false, false, false, false, false, false, false, false, false, false, false], [false, false, false, false, false, false, false, false, false, false, false, false, true, false, false, false, false, true, false, false, false, false, false, false, false, false, false, false, false, false, false, false, false, false], [false, false, false, false, false, false, false, false, false, false, false, false, false, false, false, false, true, false, true, false, false, false, false, false, false, false, false, false, false, false, false, false, false, false], [false, false, false, false, false, false, false, false, false, false, false, false, false, false, false, false, false, false, false, true, false, false, false, false, false, false, false, false, false, false, false, false, false, false], [false, false, false, false, false, false, false, false, false, false, false, false, false, false, false, false, false, false, false, true, true, false, false, false, false, false, false, false, false, false, false, false, false, false], [false, false, false, false, false, false, false, false, false, false, false, false, false, false, false, false, false, false, false, true, false, false, false, false, false, false, false, false, false, false, false, false, false, false], [false, false, false, false, false, false, false, false, false, false, false, false, false, false, false, false, false, false, false, true, false, true, true, false, false, false, false, false, false, false, false, false, false, false], [false, false, false, false, false, false, false, false, false, false, false, false, false, false, false, false, false, false, false, true, false, true, false, true, false, false, false, false, false, false, false, false, false, false], [false, false, false, false, false, false, false, false, false, false, false, false, false, false, false, false, false, false, false, true, false, false, false, false, true, false, false, false, false, false, false, false, false, false], [false, false, false, false, false, false, false, false, false, false, false, false, false, false, false, false, false, false, false, false, false, false, false, true, false, true, false, false, false, false, false, false, false, false], [false, false, false, false, false, false, false, false, false, false, false, false, false, false, false, false, false, false, false, false, false, false, false, false, false, false, true, false, false, false, false, false, false, false], [false, false, false, false, false, false, false, false, false, false, false, false, false, false, false, false, false, false, false, false, false, false, false, false, false, false, true, true, false, false, false, false, false, false], [false, false, false, false, false, false, false, false, false, false, false, false, false, false, false, false, false, false, false, false, false, false, false, false, false, false, true, false, true, false, false, false, false, false], [false, false, false, false, false, false, false, false, false, false, false, false, false, false, false, false, false, false, false, false, false, false, false, false, false, false, true, false, false, false, false, false, false, false], [false, false, false, false, false, false, false, false, false, false, false, false, false, false, false, false, false, false, false, false, false, false, false, false, false, false, true, false, false, false, true, false, false, false], [false, false, false, false, false, false, false, false, false, false, false, false, false, false, false, false, false, false, false, false, false, false, false, false, false, false, true, false, false, true, false, true, false, false], [false, false, false, false, false, false, false, false, false, false, false, false, false, false, false, false, false, false, false, false, false, false, false, false, false, false, true, false, false, false, false, false, true, false]]
    (fun L x w1 => Below W.heap.size W w1)
    (by kernel_rfl) (by kernel_rfl) (by kernel_rfl) (by kernel_rfl) (by kernel_rfl) (by decide) ?_ ?_ ?_
  · intro _
    exact (Below.refl _ _).drew
  · simp only [List.take_succ_cons, List.take_zero]
    refine ⟨?_, ?_, ?_, ?_, ?_, ?_, ?_, ?_, ?_, ?_, ?_, ?_, ?_, ?_, ?_, ?_, ?_, ?_, ?_, ?_, ?_, ?_, ?_, ?_, ?_, ?_, ?_, ?_, ?_, ?_, ?_, ?_, ?_, ?_, trivial⟩
    all_goals
      intro L x w9 hS hl hp K9 hK9
      have hs : Below W.heap.size W w9 := hS
      have q4 := G4.out
      have q0 : w9.cell? ⟨B, 0, none⟩ = some (.string M) := by rw [(bcell hs).1 _ _ (by omega)]; exact G0.out
      have q1 : w9.cell? ⟨B, 1, none⟩ = some (.string T) := by rw [(bcell hs).1 _ _ (by omega)]; exact G1.out
      have q2 : w9.cell? ⟨B + 1, 0, none⟩ = some (.int .i64 c) := by rw [(bcell hs).1 _ _ (by omega)]; exact G2.out
      have q3 : w9.cell? ⟨B + 1, 1, none⟩ = some (.string RR) := by rw [(bcell hs).1 _ _ (by omega)]; exact G3.out
      clear hS hp hl q4
      replace hK9 := hK9.out
      simp only [actMix, pickV, List.tail_cons, List.headD_cons, Act.put, List.setIfInBounds_toArray, List.set_cons_zero, List.set_cons_succ] at hK9 ⊢
    · go_simp
      with_reducible refine hK9 _ ?_
      exact hs
    · go_simp
      refine (HL.out w9).mono ?_
      rintro e w8 ⟨rfl, hb8⟩
      with_reducible refine hK9 _ ?_
      exact hs.trans (hb8.mono hs.size)
    · go_simp
      with_reducible refine hK9 _ ?_
      exact hs
    · go_simp
      refine (HRL.out w9).mono ?_
      rintro e w8 ⟨rfl, hb8⟩
      with_reducible refine hK9 _ ?_
      exact hs.trans (hb8.mono hs.size)
    · go_simp
      with_reducible refine hK9 _ ?_
      exact hs
    · go_simp
      with_reducible refine hK9 _ ?_
      exact hs
    · go_simp
      with_reducible refine hK9 _ ?_
      exact hs
    · go_simp
      refine (HSL.out w9 (W4.out.below hs)).mono ?_
      rintro e w8 ⟨rfl, hb8⟩
      with_reducible refine hK9 _ ?_
      exact hs.trans (hb8.mono hs.size)
    · go_simp
      with_reducible refine hK9 _ ?_
      exact hs
    · go_simp
      refine (HRS.out w9 (W4.out.below hs)).mono ?_
      rintro e w8 ⟨rfl, hb8⟩
      with_reducible refine hK9 _ ?_
      exact hs.trans (hb8.mono hs.size)
    · go_simp
      with_reducible refine hK9 _ ?_
      exact hs
    · go_simp
      with_reducible refine hK9 _ ?_
      exact hs
    · go_simp
      with_reducible refine hK9 _ ?_
      exact hs
    · go_simp
      with_reducible refine hK9 _ ?_
      exact hs
    · go_simp
      refine (HI.out w9).mono ?_
      rintro e w8 ⟨rfl, hb8⟩
      with_reducible refine hK9 _ ?_
      exact hs.trans (hb8.mono hs.size)
    · go_simp
      with_reducible refine hK9 _ ?_
      exact hs
    · go_simp
      refine (HRI.out w9).mono ?_
      rintro e w8 ⟨rfl, rfl⟩
      with_reducible refine hK9 _ ?_
      exact hs
    · go_simp
      with_reducible refine hK9 _ ?_
      exact hs
    · go_simp
      with_reducible refine hK9 _ ?_
      exact hs
    · go_simp
      with_reducible refine hK9 _ ?_
      exact hs
    · go_simp
      with_reducible refine hK9 _ ?_
      exact hs
    · go_simp
      refine (HP.out w9 (W4.out.below hs)).mono ?_
      rintro e w8 ⟨rfl, hb8⟩
      with_reducible refine hK9 _ ?_
      exact hs.trans (hb8.mono hs.size)
    · go_simp
      with_reducible refine hK9 _ ?_
      exact hs
    · go_simp
      refine (HRP.out w9).mono ?_
      rintro e w8 ⟨rfl, rfl⟩
      with_reducible refine hK9 _ ?_
      exact hs
    · go_simp
      with_reducible refine hK9 _ ?_
      exact hs
    · go_simp
      with_reducible refine hK9 _ ?_
      exact hs
    · go_simp
      with_reducible refine hK9 _ ?_
      exact hs
    · go_simp
      with_reducible refine hK9 _ ?_
      exact hs
    · go_simp
      refine (HK.out w9).mono ?_
      rintro e w8 ⟨rfl, hb8⟩
      with_reducible refine hK9 _ ?_
      exact hs.trans (hb8.mono hs.size)
    · go_simp
      with_reducible refine hK9 _ ?_
      exact hs
    · go_simp
      with_reducible refine hK9 _ ?_
      exact hs
    · go_simp
      with_reducible refine hK9 _ ?_
      exact hs
    · go_simp
      with_reducible refine hK9 _ ?_
      exact hs
    · go_simp
      with_reducible refine hK9 _ ?_
      exact hs
  · intro L x w9 hS hL
    have hs : Below W.heap.size W w9 := hS
    clear hS hL
    simp only [actMix, pickV, List.tail_cons, List.headD_cons, Act.put, List.setIfInBounds_toArray, List.set_cons_zero, List.set_cons_succ, List.replicate_succ, List.replicate_zero, List.drop_succ_cons, List.drop_zero, List.take_succ_cons, List.take_zero]
    go_wp2_with fail
    go_ret
    exact ⟨rfl, B4.out.trans (hs.mono B4.out.size)⟩
end Go.Proofs.YtkajfocjpaemgaaDoor
