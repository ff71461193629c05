/- start's reference: ParseRequest. -/
import Derived.Test.YtkajfocjpaemgaaDoorStC
namespace Go.Proofs.YtkajfocjpaemgaaDoor
open Go.RowKit

set_option maxRecDepth 100000 in
set_option maxHeartbeats 8000000 in
theorem rpreq10 (s : ByteArray) (hs : s.size ≤ 4000000000) (w : World) :
    Calls Tryd.prog 10 #[.string s] w fun e w' => e = .returned (reqO (reqP s.data.toList)) ∧ Below w.heap.size w w' := by
  rw [← reqR_eq]
  obtain ⟨R, hR⟩ : ∃ R, R = reqO (reqR s.data.toList) := ⟨_, rfl⟩
  rw [← hR]
  have hz := Lib.size_eq s
  have L0 := below_alloc w (.cells #[.string ⟨#[]⟩, .string ⟨#[]⟩] 29)
  obtain ⟨m, x, qa, hc⟩ : ∃ a b q, Lib.cut s.data.toList [32] = (a, b, q) := ⟨_, _, _, rfl⟩
  obtain ⟨t, v, qb, hd⟩ : ∃ a b q, Lib.cut x [32] = (a, b, q) := ⟨_, _, _, rfl⟩
  have l1 := cut_lens 32 _ m x qa hc
  have l2 := cut_lens 32 x t v qb hd
  have hml : m.length ≤ 4000000000 := by omega
  have hxl : x.length ≤ 4000000000 := by omega
  have htl : t.length ≤ 4000000000 := by omega
  obtain ⟨q1, h1⟩ : ∃ q, tokB m = q := ⟨_, rfl⟩
  obtain ⟨q2, h2⟩ : ∃ q, tgtB t = q := ⟨_, rfl⟩
  obtain ⟨qv, hv⟩ : ∃ q, decide (v = verL) = q := ⟨_, rfl⟩
  have hvs : ((bs v).toList == [72, 84, 84, 80, 47, 49, 46, 49]) = qv := str_lit v verL qv hv
  have hvn : ((bs v).toList != [72, 84, 84, 80, 47, 49, 46, 49]) = !qv := by rw [bne, hvs]
  have hrv : reqR s.data.toList = if qa = true ∧ qb = true ∧ qv = true ∧ q1 = true ∧ q2 = true then some (m, t) else none := by
    unfold reqR
    simp only [hc, hd, h1, h2, ← hv, decide_eq_true_eq]
  rw [hrv] at hR
  have HA := Lib.hid (fun W => word28 s hs m x qa hc W)
  have HB := Lib.hid (fun W => word28 (bs x) (by rw [bs_size]; exact hxl) t v qb (by rw [bs_list]; exact hd) W)
  have HT : Hid (∀ W, Calls Tryd.prog 29 #[.string (bs m)] W fun e w' => e = .returned (.bool q1) ∧ W = w') := fun W => token15 (bs m) (by rw [bs_size]; omega) q1 h1 W
  have HG : Hid (∀ W, Calls Tryd.prog 30 #[.string (bs t)] W fun e w' => e = .returned (.bool q2) ∧ W = w') := fun W => target17 (bs t) (by rw [bs_size]; omega) q2 h2 W
  clear hrv hc hd h1 h2 hv hml hxl htl l1 l2 hz
  cases qa
  · have hR2 : Hid (R = .tuple #[.agg #[.string ⟨#[]⟩, .string ⟨#[]⟩], .int .i64 2]) := by
      show _ = _
      rw [hR, if_neg (fun h => absurd h.1 (by simp))]; rfl
    clear hR
    generalize bs m = M at *
    generalize bs x = X at *
    generalize bs t = T at *
    generalize bs v = V at *
    go_enter Tryd.func10, Tryd.ntmps10
    go_wp2_with fail
    refine (HA.out _).mono ?_
    rintro e w1 ⟨rfl, hb1⟩
    have f1 := (bcell hb1).1 w.heap.size
    have z1 := (bcell hb1).2 w.heap.size
    have hs1 := hb1.size
    simp at hs1
    have c0 : w1.cell? ⟨w.heap.size, 0, none⟩ = some (.string ⟨#[]⟩) := by rw [f1 0 (by simp)]; simp
    have c1 : w1.cell? ⟨w.heap.size, 1, none⟩ = some (.string ⟨#[]⟩) := by rw [f1 1 (by simp)]; simp
    have d0 : w1.frozen? ⟨w.heap.size, 0, none⟩ = false := by rw [z1 0 (by simp)]; simp
    have d1 : w1.frozen? ⟨w.heap.size, 1, none⟩ = false := by rw [z1 1 (by simp)]; simp
    have b1 := L0.trans (hb1.mono (by simp))
    clear f1 z1 L0 hb1 HA
    go_wp2_with fail
    refine (HB.out w1).mono ?_
    rintro e w2 ⟨rfl, hb2⟩
    have f2 := (bcell hb2).1
    have z2 := (bcell hb2).2
    have c20 : w2.cell? ⟨w.heap.size, 0, none⟩ = some (.string ⟨#[]⟩) := by rw [f2 _ _ (by omega), c0]
    have c21 : w2.cell? ⟨w.heap.size, 1, none⟩ = some (.string ⟨#[]⟩) := by rw [f2 _ _ (by omega), c1]
    have d20 : w2.frozen? ⟨w.heap.size, 0, none⟩ = false := by rw [z2 _ _ (by omega), d0]
    have d21 : w2.frozen? ⟨w.heap.size, 1, none⟩ = false := by rw [z2 _ _ (by omega), d1]
    have b2 := b1.trans (hb2.mono b1.size)
    clear f2 z2 c0 c1 d0 d1 b1 hb2 HB
    go_wp2_with fail
    refine bodyPost_ret (v := .tuple #[.agg #[.string ⟨#[]⟩, .string ⟨#[]⟩], .int .i64 2]) (by simp [results, Tryd.results10, go_sem, c20, c21]) rfl ⟨by rw [hR2.out], ?_⟩
    exact (b2.setCell (p := ⟨w.heap.size, 0, none⟩) (Nat.le_refl _) _).setCell (p := ⟨w.heap.size, 1, none⟩) (Nat.le_refl _) _
  · skip
    cases qb
    · have hR2 : Hid (R = .tuple #[.agg #[.string ⟨#[]⟩, .string ⟨#[]⟩], .int .i64 2]) := by
        show _ = _
        rw [hR, if_neg (fun h => absurd h.2.1 (by simp))]; rfl
      clear hR
      generalize bs m = M at *
      generalize bs x = X at *
      generalize bs t = T at *
      generalize bs v = V at *
      go_enter Tryd.func10, Tryd.ntmps10
      go_wp2_with fail
      refine (HA.out _).mono ?_
      rintro e w1 ⟨rfl, hb1⟩
      have f1 := (bcell hb1).1 w.heap.size
      have z1 := (bcell hb1).2 w.heap.size
      have hs1 := hb1.size
      simp at hs1
      have c0 : w1.cell? ⟨w.heap.size, 0, none⟩ = some (.string ⟨#[]⟩) := by rw [f1 0 (by simp)]; simp
      have c1 : w1.cell? ⟨w.heap.size, 1, none⟩ = some (.string ⟨#[]⟩) := by rw [f1 1 (by simp)]; simp
      have d0 : w1.frozen? ⟨w.heap.size, 0, none⟩ = false := by rw [z1 0 (by simp)]; simp
      have d1 : w1.frozen? ⟨w.heap.size, 1, none⟩ = false := by rw [z1 1 (by simp)]; simp
      have b1 := L0.trans (hb1.mono (by simp))
      clear f1 z1 L0 hb1 HA
      go_wp2_with fail
      refine (HB.out w1).mono ?_
      rintro e w2 ⟨rfl, hb2⟩
      have f2 := (bcell hb2).1
      have z2 := (bcell hb2).2
      have c20 : w2.cell? ⟨w.heap.size, 0, none⟩ = some (.string ⟨#[]⟩) := by rw [f2 _ _ (by omega), c0]
      have c21 : w2.cell? ⟨w.heap.size, 1, none⟩ = some (.string ⟨#[]⟩) := by rw [f2 _ _ (by omega), c1]
      have d20 : w2.frozen? ⟨w.heap.size, 0, none⟩ = false := by rw [z2 _ _ (by omega), d0]
      have d21 : w2.frozen? ⟨w.heap.size, 1, none⟩ = false := by rw [z2 _ _ (by omega), d1]
      have b2 := b1.trans (hb2.mono b1.size)
      clear f2 z2 c0 c1 d0 d1 b1 hb2 HB
      go_wp2_with fail
      refine bodyPost_ret (v := .tuple #[.agg #[.string ⟨#[]⟩, .string ⟨#[]⟩], .int .i64 2]) (by simp [results, Tryd.results10, go_sem, c20, c21]) rfl ⟨by rw [hR2.out], ?_⟩
      exact (b2.setCell (p := ⟨w.heap.size, 0, none⟩) (Nat.le_refl _) _).setCell (p := ⟨w.heap.size, 1, none⟩) (Nat.le_refl _) _
    · skip
      cases qv
      · have hR2 : Hid (R = .tuple #[.agg #[.string ⟨#[]⟩, .string ⟨#[]⟩], .int .i64 2]) := by
          show _ = _
          rw [hR, if_neg (fun h => absurd h.2.2.1 (by simp))]; rfl
        simp only [Bool.not_false] at hvn
        clear hR
        generalize bs m = M at *
        generalize bs x = X at *
        generalize bs t = T at *
        generalize bs v = V at *
        go_enter Tryd.func10, Tryd.ntmps10
        go_wp2_with fail
        refine (HA.out _).mono ?_
        rintro e w1 ⟨rfl, hb1⟩
        have f1 := (bcell hb1).1 w.heap.size
        have z1 := (bcell hb1).2 w.heap.size
        have hs1 := hb1.size
        simp at hs1
        have c0 : w1.cell? ⟨w.heap.size, 0, none⟩ = some (.string ⟨#[]⟩) := by rw [f1 0 (by simp)]; simp
        have c1 : w1.cell? ⟨w.heap.size, 1, none⟩ = some (.string ⟨#[]⟩) := by rw [f1 1 (by simp)]; simp
        have d0 : w1.frozen? ⟨w.heap.size, 0, none⟩ = false := by rw [z1 0 (by simp)]; simp
        have d1 : w1.frozen? ⟨w.heap.size, 1, none⟩ = false := by rw [z1 1 (by simp)]; simp
        have b1 := L0.trans (hb1.mono (by simp))
        clear f1 z1 L0 hb1 HA
        go_wp2_with fail
        refine (HB.out w1).mono ?_
        rintro e w2 ⟨rfl, hb2⟩
        have f2 := (bcell hb2).1
        have z2 := (bcell hb2).2
        have c20 : w2.cell? ⟨w.heap.size, 0, none⟩ = some (.string ⟨#[]⟩) := by rw [f2 _ _ (by omega), c0]
        have c21 : w2.cell? ⟨w.heap.size, 1, none⟩ = some (.string ⟨#[]⟩) := by rw [f2 _ _ (by omega), c1]
        have d20 : w2.frozen? ⟨w.heap.size, 0, none⟩ = false := by rw [z2 _ _ (by omega), d0]
        have d21 : w2.frozen? ⟨w.heap.size, 1, none⟩ = false := by rw [z2 _ _ (by omega), d1]
        have b2 := b1.trans (hb2.mono b1.size)
        clear f2 z2 c0 c1 d0 d1 b1 hb2 HB
        go_wp2_with fail
        refine bodyPost_ret (v := .tuple #[.agg #[.string ⟨#[]⟩, .string ⟨#[]⟩], .int .i64 2]) (by simp [results, Tryd.results10, go_sem, c20, c21]) rfl ⟨by rw [hR2.out], ?_⟩
        exact (b2.setCell (p := ⟨w.heap.size, 0, none⟩) (Nat.le_refl _) _).setCell (p := ⟨w.heap.size, 1, none⟩) (Nat.le_refl _) _
      · simp only [Bool.not_true] at hvn
        skip
        cases q1
        · have hR2 : Hid (R = .tuple #[.agg #[.string ⟨#[]⟩, .string ⟨#[]⟩], .int .i64 2]) := by
            show _ = _
            rw [hR, if_neg (fun h => absurd h.2.2.2.1 (by simp))]; rfl
          clear hR
          generalize bs m = M at *
          generalize bs x = X at *
          generalize bs t = T at *
          generalize bs v = V at *
          go_enter Tryd.func10, Tryd.ntmps10
          go_wp2_with fail
          refine (HA.out _).mono ?_
          rintro e w1 ⟨rfl, hb1⟩
          have f1 := (bcell hb1).1 w.heap.size
          have z1 := (bcell hb1).2 w.heap.size
          have hs1 := hb1.size
          simp at hs1
          have c0 : w1.cell? ⟨w.heap.size, 0, none⟩ = some (.string ⟨#[]⟩) := by rw [f1 0 (by simp)]; simp
          have c1 : w1.cell? ⟨w.heap.size, 1, none⟩ = some (.string ⟨#[]⟩) := by rw [f1 1 (by simp)]; simp
          have d0 : w1.frozen? ⟨w.heap.size, 0, none⟩ = false := by rw [z1 0 (by simp)]; simp
          have d1 : w1.frozen? ⟨w.heap.size, 1, none⟩ = false := by rw [z1 1 (by simp)]; simp
          have b1 := L0.trans (hb1.mono (by simp))
          clear f1 z1 L0 hb1 HA
          go_wp2_with fail
          refine (HB.out w1).mono ?_
          rintro e w2 ⟨rfl, hb2⟩
          have f2 := (bcell hb2).1
          have z2 := (bcell hb2).2
          have c20 : w2.cell? ⟨w.heap.size, 0, none⟩ = some (.string ⟨#[]⟩) := by rw [f2 _ _ (by omega), c0]
          have c21 : w2.cell? ⟨w.heap.size, 1, none⟩ = some (.string ⟨#[]⟩) := by rw [f2 _ _ (by omega), c1]
          have d20 : w2.frozen? ⟨w.heap.size, 0, none⟩ = false := by rw [z2 _ _ (by omega), d0]
          have d21 : w2.frozen? ⟨w.heap.size, 1, none⟩ = false := by rw [z2 _ _ (by omega), d1]
          have b2 := b1.trans (hb2.mono b1.size)
          clear f2 z2 c0 c1 d0 d1 b1 hb2 HB
          go_wp2_with fail
          refine (HT.out w2).mono ?_
          rintro e w' ⟨rfl, rfl⟩
          go_wp2_with fail
          refine bodyPost_ret (v := .tuple #[.agg #[.string ⟨#[]⟩, .string ⟨#[]⟩], .int .i64 2]) (by simp [results, Tryd.results10, go_sem, c20, c21]) rfl ⟨by rw [hR2.out], ?_⟩
          exact (b2.setCell (p := ⟨w.heap.size, 0, none⟩) (Nat.le_refl _) _).setCell (p := ⟨w.heap.size, 1, none⟩) (Nat.le_refl _) _
        · skip
          cases q2
          · have hR2 : Hid (R = .tuple #[.agg #[.string ⟨#[]⟩, .string ⟨#[]⟩], .int .i64 2]) := by
              show _ = _
              rw [hR, if_neg (fun h => absurd h.2.2.2.2 (by simp))]; rfl
            clear hR
            generalize bs m = M at *
            generalize bs x = X at *
            generalize bs t = T at *
            generalize bs v = V at *
            go_enter Tryd.func10, Tryd.ntmps10
            go_wp2_with fail
            refine (HA.out _).mono ?_
            rintro e w1 ⟨rfl, hb1⟩
            have f1 := (bcell hb1).1 w.heap.size
            have z1 := (bcell hb1).2 w.heap.size
            have hs1 := hb1.size
            simp at hs1
            have c0 : w1.cell? ⟨w.heap.size, 0, none⟩ = some (.string ⟨#[]⟩) := by rw [f1 0 (by simp)]; simp
            have c1 : w1.cell? ⟨w.heap.size, 1, none⟩ = some (.string ⟨#[]⟩) := by rw [f1 1 (by simp)]; simp
            have d0 : w1.frozen? ⟨w.heap.size, 0, none⟩ = false := by rw [z1 0 (by simp)]; simp
            have d1 : w1.frozen? ⟨w.heap.size, 1, none⟩ = false := by rw [z1 1 (by simp)]; simp
            have b1 := L0.trans (hb1.mono (by simp))
            clear f1 z1 L0 hb1 HA
            go_wp2_with fail
            refine (HB.out w1).mono ?_
            rintro e w2 ⟨rfl, hb2⟩
            have f2 := (bcell hb2).1
            have z2 := (bcell hb2).2
            have c20 : w2.cell? ⟨w.heap.size, 0, none⟩ = some (.string ⟨#[]⟩) := by rw [f2 _ _ (by omega), c0]
            have c21 : w2.cell? ⟨w.heap.size, 1, none⟩ = some (.string ⟨#[]⟩) := by rw [f2 _ _ (by omega), c1]
            have d20 : w2.frozen? ⟨w.heap.size, 0, none⟩ = false := by rw [z2 _ _ (by omega), d0]
            have d21 : w2.frozen? ⟨w.heap.size, 1, none⟩ = false := by rw [z2 _ _ (by omega), d1]
            have b2 := b1.trans (hb2.mono b1.size)
            clear f2 z2 c0 c1 d0 d1 b1 hb2 HB
            go_wp2_with fail
            refine (HT.out w2).mono ?_
            rintro e w' ⟨rfl, rfl⟩
            go_wp2_with fail
            refine (HG.out w2).mono ?_
            rintro e w' ⟨rfl, rfl⟩
            go_wp2_with fail
            refine bodyPost_ret (v := .tuple #[.agg #[.string ⟨#[]⟩, .string ⟨#[]⟩], .int .i64 2]) (by simp [results, Tryd.results10, go_sem, c20, c21]) rfl ⟨by rw [hR2.out], ?_⟩
            exact (b2.setCell (p := ⟨w.heap.size, 0, none⟩) (Nat.le_refl _) _).setCell (p := ⟨w.heap.size, 1, none⟩) (Nat.le_refl _) _
          · have hR2 : Hid (R = .tuple #[.agg #[.string (bs m), .string (bs t)], .int .i64 0]) := by
              show _ = _
              rw [hR, if_pos ⟨rfl, rfl, rfl, rfl, rfl⟩]; rfl
            clear hR
            generalize bs m = M at *
            generalize bs x = X at *
            generalize bs t = T at *
            generalize bs v = V at *
            go_enter Tryd.func10, Tryd.ntmps10
            go_wp2_with fail
            refine (HA.out _).mono ?_
            rintro e w1 ⟨rfl, hb1⟩
            have f1 := (bcell hb1).1 w.heap.size
            have z1 := (bcell hb1).2 w.heap.size
            have hs1 := hb1.size
            simp at hs1
            have c0 : w1.cell? ⟨w.heap.size, 0, none⟩ = some (.string ⟨#[]⟩) := by rw [f1 0 (by simp)]; simp
            have c1 : w1.cell? ⟨w.heap.size, 1, none⟩ = some (.string ⟨#[]⟩) := by rw [f1 1 (by simp)]; simp
            have d0 : w1.frozen? ⟨w.heap.size, 0, none⟩ = false := by rw [z1 0 (by simp)]; simp
            have d1 : w1.frozen? ⟨w.heap.size, 1, none⟩ = false := by rw [z1 1 (by simp)]; simp
            have b1 := L0.trans (hb1.mono (by simp))
            clear f1 z1 L0 hb1 HA
            go_wp2_with fail
            refine (HB.out w1).mono ?_
            rintro e w2 ⟨rfl, hb2⟩
            have f2 := (bcell hb2).1
            have z2 := (bcell hb2).2
            have c20 : w2.cell? ⟨w.heap.size, 0, none⟩ = some (.string ⟨#[]⟩) := by rw [f2 _ _ (by omega), c0]
            have c21 : w2.cell? ⟨w.heap.size, 1, none⟩ = some (.string ⟨#[]⟩) := by rw [f2 _ _ (by omega), c1]
            have d20 : w2.frozen? ⟨w.heap.size, 0, none⟩ = false := by rw [z2 _ _ (by omega), d0]
            have d21 : w2.frozen? ⟨w.heap.size, 1, none⟩ = false := by rw [z2 _ _ (by omega), d1]
            have b2 := b1.trans (hb2.mono b1.size)
            clear f2 z2 c0 c1 d0 d1 b1 hb2 HB
            go_wp2_with fail
            refine (HT.out w2).mono ?_
            rintro e w' ⟨rfl, rfl⟩
            go_wp2_with fail
            refine (HG.out w2).mono ?_
            rintro e w' ⟨rfl, rfl⟩
            go_wp2_with fail
            refine bodyPost_ret (v := .tuple #[.agg #[.string M, .string T], .int .i64 0]) (by simp [results, Tryd.results10, go_sem, c20, c21]) rfl ⟨by rw [hR2.out], ?_⟩
            exact (b2.setCell (p := ⟨w.heap.size, 0, none⟩) (Nat.le_refl _) _).setCell (p := ⟨w.heap.size, 1, none⟩) (Nat.le_refl _) _
end Go.Proofs.YtkajfocjpaemgaaDoor
