/- start: ParseStatus. -/
import Derived.Test.YtkajfocjpaemgaaDoorStA
namespace Go.Proofs.YtkajfocjpaemgaaDoor
open Go.RowKit

def stO (o : Option Sta) : Value := match o with
  | some s => .tuple #[.agg #[.int .i64 s.1, .string (bs s.2)], .int .i64 0]
  | none => .tuple #[.agg #[.int .i64 0, .string ⟨#[]⟩], .int .i64 2]
theorem dec_l (d : List UInt8) (hd : d.length ≤ 4000000000) (n1 n2 : Int) (h : numR 10 10 isDec d 599 = (n1, n2)) (w : World) (hw : Syn w) :
    Calls Tryd.prog 34 #[.string (bs d), .int .i64 599] w fun e w' => e = .returned (.tuple #[.int .i64 n1, .int .i64 n2]) ∧ Below w.heap.size w w' := by
  have e := dec_any (bs d) (by rw [bs_size]; omega) 599 w hw
  rw [bs_list, h] at e
  exact e
set_option maxRecDepth 100000 in
set_option maxHeartbeats 8000000 in
theorem pst13 (s : ByteArray) (hs : s.size ≤ 4000000000) (w : World) (hw : MaxL w) (hy : Syn w) :
    Calls Tryd.prog 13 #[.string s] w fun e w' => e = .returned (stO (stP s.data.toList)) ∧ Below w.heap.size w w' := by
  obtain ⟨R, hR⟩ : ∃ R, R = stO (stP s.data.toList) := ⟨_, rfl⟩
  rw [← hR]
  have hz := Lib.size_eq s
  have L0 := below_alloc w (.cells #[.int .i64 0, .string ⟨#[]⟩] 36)
  have hmx := hw.below L0
  obtain ⟨a, ha⟩ : ∃ a, Lib.trimPrefix s.data.toList pfxL = a := ⟨_, rfl⟩
  obtain ⟨q0, h0⟩ : ∃ q, Lib.hasPrefix s.data.toList pfxL = q := ⟨_, rfl⟩
  have hal : a.length ≤ 4000000000 := by rw [← ha]; exact Nat.le_trans (Lib.trimPrefix_le _ _) (by omega)
  obtain ⟨d, r, q, hc⟩ : ∃ d r q, Lib.cut a [32] = (d, r, q) := ⟨_, _, _, rfl⟩
  have hdr := cut_lens 32 a d r q hc
  have hdl : d.length ≤ 4000000000 := by omega
  have hrl : r.length ≤ 4000000000 := by omega
  obtain ⟨n1, n2, hn⟩ : ∃ n1 n2, numR 10 10 isDec d 599 = (n1, n2) := ⟨_, _, rfl⟩
  obtain ⟨qv, hqv⟩ : ∃ q, valB r = q := ⟨_, rfl⟩
  have hrv : stP s.data.toList = if q0 = true ∧ d.length = 3 ∧ n2 = 0 ∧ ¬ n1 < 200 ∧ qv = true then some (n1, r) else none := by
    unfold stP
    simp only [ha, h0, hc, hn, hqv]
  rw [hrv] at hR
  have HS := Lib.hid (fun W => pfx_c s a q0 ha h0 W)
  have HC := Lib.hid (cut_c 32 (bs a) (by rw [bs_size]; exact hal) d r q hc _ hmx)
  have HD := Lib.hid (fun W hW => dec_l d hdl n1 n2 hn W hW)
  have HV := Lib.hid (fun W => value_l r hrl qv hqv W)
  have HY := Lib.hid (hy.below L0)
  have hds : (bs d).size = d.length := bs_size d
  clear hrv hn hc ha h0 hz hw hy hmx hdr hrl hal hqv
  cases q0
  · have hdl2 := hdl
    clear hdl
    have hR2 : Hid (R = .tuple #[.agg #[.int .i64 0, .string ⟨#[]⟩], .int .i64 2]) := by
      show _ = _
      rw [hR, if_neg (fun h => absurd h.1 (by simp))]; rfl
    clear hds hdl2
    clear hR
    generalize bs a = A at *
    generalize bs d = D at *
    generalize bs r = RR at *
    go_enter Tryd.func13, Tryd.ntmps13
    go_wp2_with fail
    refine (HS.out _).mono ?_
    rintro e w' ⟨rfl, rfl⟩
    go_wp2_with fail
    refine HC.out.mono ?_
    rintro e w1 ⟨rfl, hb1⟩
    have f1 := (bcell hb1).1 w.heap.size
    have z1 := (bcell hb1).2 w.heap.size
    have hs1 := hb1.size
    simp at hs1
    have c0 : w1.cell? ⟨w.heap.size, 0, none⟩ = some (.int .i64 0) := by rw [f1 0 (by simp)]; simp
    have c1 : w1.cell? ⟨w.heap.size, 1, none⟩ = some (.string ⟨#[]⟩) := by rw [f1 1 (by simp)]; simp
    have d0 : w1.frozen? ⟨w.heap.size, 0, none⟩ = false := by rw [z1 0 (by simp)]; simp
    have d1 : w1.frozen? ⟨w.heap.size, 1, none⟩ = false := by rw [z1 1 (by simp)]; simp
    have b1 := L0.trans (hb1.mono (by simp))
    have Y1 : Hid (Syn w1) := HY.out.below hb1
    clear f1 z1 L0 HC HS hb1 HY
    go_wp2_with fail
    refine (HD.out w1 Y1.out).mono ?_
    rintro e w2 ⟨rfl, hb2⟩
    have f2 := (bcell hb2).1
    have z2 := (bcell hb2).2
    have hs2 := hb2.size
    have c20 : w2.cell? ⟨w.heap.size, 0, none⟩ = some (.int .i64 0) := by rw [f2 _ _ (by omega), c0]
    have c21 : w2.cell? ⟨w.heap.size, 1, none⟩ = some (.string ⟨#[]⟩) := by rw [f2 _ _ (by omega), c1]
    have d20 : w2.frozen? ⟨w.heap.size, 0, none⟩ = false := by rw [z2 _ _ (by omega), d0]
    have d21 : w2.frozen? ⟨w.heap.size, 1, none⟩ = false := by rw [z2 _ _ (by omega), d1]
    have b2 := b1.trans (hb2.mono b1.size)
    clear f2 z2 c0 c1 d0 d1 b1 hb2 Y1 HD
    go_wp2_with fail
    refine bodyPost_ret (v := .tuple #[.agg #[.int .i64 0, .string ⟨#[]⟩], .int .i64 2]) (by simp [results, Tryd.results13, go_sem, c20, c21]) rfl ⟨by rw [hR2.out], ?_⟩
    exact (b2.setCell (p := ⟨w.heap.size, 0, none⟩) (Nat.le_refl _) _).setCell (p := ⟨w.heap.size, 1, none⟩) (Nat.le_refl _) _
  · by_cases hl : d.length = 3
    · by_cases he : n2 = 0
      · by_cases hcode : n1 < 200
        · have hx3 : (((bs d).size : Int) != 3) = false := by rw [bne_eq_false_iff_eq]; omega
          have hR2 : Hid (R = .tuple #[.agg #[.int .i64 0, .string ⟨#[]⟩], .int .i64 2]) := by
            show _ = _
            rw [hR, if_neg (fun h => h.2.2.2.1 hcode)]; rfl
          subst he
          clear hl hds hdl
          clear hR
          generalize bs a = A at *
          generalize bs d = D at *
          generalize bs r = RR at *
          go_enter Tryd.func13, Tryd.ntmps13
          go_wp2_with fail
          refine (HS.out _).mono ?_
          rintro e w' ⟨rfl, rfl⟩
          go_wp2_with fail
          refine HC.out.mono ?_
          rintro e w1 ⟨rfl, hb1⟩
          have f1 := (bcell hb1).1 w.heap.size
          have z1 := (bcell hb1).2 w.heap.size
          have hs1 := hb1.size
          simp at hs1
          have c0 : w1.cell? ⟨w.heap.size, 0, none⟩ = some (.int .i64 0) := by rw [f1 0 (by simp)]; simp
          have c1 : w1.cell? ⟨w.heap.size, 1, none⟩ = some (.string ⟨#[]⟩) := by rw [f1 1 (by simp)]; simp
          have d0 : w1.frozen? ⟨w.heap.size, 0, none⟩ = false := by rw [z1 0 (by simp)]; simp
          have d1 : w1.frozen? ⟨w.heap.size, 1, none⟩ = false := by rw [z1 1 (by simp)]; simp
          have b1 := L0.trans (hb1.mono (by simp))
          have Y1 : Hid (Syn w1) := HY.out.below hb1
          clear f1 z1 L0 HC HS hb1 HY
          go_wp2_with fail
          refine (HD.out w1 Y1.out).mono ?_
          rintro e w2 ⟨rfl, hb2⟩
          have f2 := (bcell hb2).1
          have z2 := (bcell hb2).2
          have hs2 := hb2.size
          have c20 : w2.cell? ⟨w.heap.size, 0, none⟩ = some (.int .i64 0) := by rw [f2 _ _ (by omega), c0]
          have c21 : w2.cell? ⟨w.heap.size, 1, none⟩ = some (.string ⟨#[]⟩) := by rw [f2 _ _ (by omega), c1]
          have d20 : w2.frozen? ⟨w.heap.size, 0, none⟩ = false := by rw [z2 _ _ (by omega), d0]
          have d21 : w2.frozen? ⟨w.heap.size, 1, none⟩ = false := by rw [z2 _ _ (by omega), d1]
          have b2 := b1.trans (hb2.mono b1.size)
          clear f2 z2 c0 c1 d0 d1 b1 hb2 Y1 HD
          go_wp2_with fail
          refine bodyPost_ret (v := .tuple #[.agg #[.int .i64 0, .string ⟨#[]⟩], .int .i64 2]) (by simp [results, Tryd.results13, go_sem, c20, c21]) rfl ⟨by rw [hR2.out], ?_⟩
          exact (b2.setCell (p := ⟨w.heap.size, 0, none⟩) (Nat.le_refl _) _).setCell (p := ⟨w.heap.size, 1, none⟩) (Nat.le_refl _) _
        · have hx3 : (((bs d).size : Int) != 3) = false := by rw [bne_eq_false_iff_eq]; omega
          cases qv
          · have hR2 : Hid (R = .tuple #[.agg #[.int .i64 0, .string ⟨#[]⟩], .int .i64 2]) := by
              show _ = _
              rw [hR, if_neg (fun h => absurd h.2.2.2.2 (by simp))]; rfl
            subst he
            clear hl hds hdl
            clear hR
            generalize bs a = A at *
            generalize bs d = D at *
            generalize bs r = RR at *
            go_enter Tryd.func13, Tryd.ntmps13
            go_wp2_with fail
            refine (HS.out _).mono ?_
            rintro e w' ⟨rfl, rfl⟩
            go_wp2_with fail
            refine HC.out.mono ?_
            rintro e w1 ⟨rfl, hb1⟩
            have f1 := (bcell hb1).1 w.heap.size
            have z1 := (bcell hb1).2 w.heap.size
            have hs1 := hb1.size
            simp at hs1
            have c0 : w1.cell? ⟨w.heap.size, 0, none⟩ = some (.int .i64 0) := by rw [f1 0 (by simp)]; simp
            have c1 : w1.cell? ⟨w.heap.size, 1, none⟩ = some (.string ⟨#[]⟩) := by rw [f1 1 (by simp)]; simp
            have d0 : w1.frozen? ⟨w.heap.size, 0, none⟩ = false := by rw [z1 0 (by simp)]; simp
            have d1 : w1.frozen? ⟨w.heap.size, 1, none⟩ = false := by rw [z1 1 (by simp)]; simp
            have b1 := L0.trans (hb1.mono (by simp))
            have Y1 : Hid (Syn w1) := HY.out.below hb1
            clear f1 z1 L0 HC HS hb1 HY
            go_wp2_with fail
            refine (HD.out w1 Y1.out).mono ?_
            rintro e w2 ⟨rfl, hb2⟩
            have f2 := (bcell hb2).1
            have z2 := (bcell hb2).2
            have hs2 := hb2.size
            have c20 : w2.cell? ⟨w.heap.size, 0, none⟩ = some (.int .i64 0) := by rw [f2 _ _ (by omega), c0]
            have c21 : w2.cell? ⟨w.heap.size, 1, none⟩ = some (.string ⟨#[]⟩) := by rw [f2 _ _ (by omega), c1]
            have d20 : w2.frozen? ⟨w.heap.size, 0, none⟩ = false := by rw [z2 _ _ (by omega), d0]
            have d21 : w2.frozen? ⟨w.heap.size, 1, none⟩ = false := by rw [z2 _ _ (by omega), d1]
            have b2 := b1.trans (hb2.mono b1.size)
            clear f2 z2 c0 c1 d0 d1 b1 hb2 Y1 HD
            go_wp2_with fail
            refine (HV.out w2).mono ?_
            rintro e w3 ⟨rfl, hb3⟩
            have f3 := (bcell hb3).1
            have z3 := (bcell hb3).2
            have hs3 := hb3.size
            have c30 : w3.cell? ⟨w.heap.size, 0, none⟩ = some (.int .i64 0) := by rw [f3 _ _ (by omega), c20]
            have c31 : w3.cell? ⟨w.heap.size, 1, none⟩ = some (.string ⟨#[]⟩) := by rw [f3 _ _ (by omega), c21]
            have d30 : w3.frozen? ⟨w.heap.size, 0, none⟩ = false := by rw [z3 _ _ (by omega), d20]
            have d31 : w3.frozen? ⟨w.heap.size, 1, none⟩ = false := by rw [z3 _ _ (by omega), d21]
            have b3 := b2.trans (hb3.mono b2.size)
            clear f3 z3 c20 c21 d20 d21 b2 hb3 HV
            go_wp2_with fail
            refine bodyPost_ret (v := .tuple #[.agg #[.int .i64 0, .string ⟨#[]⟩], .int .i64 2]) (by simp [results, Tryd.results13, go_sem, c30, c31]) rfl ⟨by rw [hR2.out], ?_⟩
            exact (b3.setCell (p := ⟨w.heap.size, 0, none⟩) (Nat.le_refl _) _).setCell (p := ⟨w.heap.size, 1, none⟩) (Nat.le_refl _) _
          · have hR2 : Hid (R = .tuple #[.agg #[.int .i64 n1, .string (bs r)], .int .i64 0]) := by
              show _ = _
              rw [hR, if_pos ⟨rfl, hl, he, hcode, rfl⟩]; rfl
            subst he
            clear hl hds hdl
            clear hR
            generalize bs a = A at *
            generalize bs d = D at *
            generalize bs r = RR at *
            go_enter Tryd.func13, Tryd.ntmps13
            go_wp2_with fail
            refine (HS.out _).mono ?_
            rintro e w' ⟨rfl, rfl⟩
            go_wp2_with fail
            refine HC.out.mono ?_
            rintro e w1 ⟨rfl, hb1⟩
            have f1 := (bcell hb1).1 w.heap.size
            have z1 := (bcell hb1).2 w.heap.size
            have hs1 := hb1.size
            simp at hs1
            have c0 : w1.cell? ⟨w.heap.size, 0, none⟩ = some (.int .i64 0) := by rw [f1 0 (by simp)]; simp
            have c1 : w1.cell? ⟨w.heap.size, 1, none⟩ = some (.string ⟨#[]⟩) := by rw [f1 1 (by simp)]; simp
            have d0 : w1.frozen? ⟨w.heap.size, 0, none⟩ = false := by rw [z1 0 (by simp)]; simp
            have d1 : w1.frozen? ⟨w.heap.size, 1, none⟩ = false := by rw [z1 1 (by simp)]; simp
            have b1 := L0.trans (hb1.mono (by simp))
            have Y1 : Hid (Syn w1) := HY.out.below hb1
            clear f1 z1 L0 HC HS hb1 HY
            go_wp2_with fail
            refine (HD.out w1 Y1.out).mono ?_
            rintro e w2 ⟨rfl, hb2⟩
            have f2 := (bcell hb2).1
            have z2 := (bcell hb2).2
            have hs2 := hb2.size
            have c20 : w2.cell? ⟨w.heap.size, 0, none⟩ = some (.int .i64 0) := by rw [f2 _ _ (by omega), c0]
            have c21 : w2.cell? ⟨w.heap.size, 1, none⟩ = some (.string ⟨#[]⟩) := by rw [f2 _ _ (by omega), c1]
            have d20 : w2.frozen? ⟨w.heap.size, 0, none⟩ = false := by rw [z2 _ _ (by omega), d0]
            have d21 : w2.frozen? ⟨w.heap.size, 1, none⟩ = false := by rw [z2 _ _ (by omega), d1]
            have b2 := b1.trans (hb2.mono b1.size)
            clear f2 z2 c0 c1 d0 d1 b1 hb2 Y1 HD
            go_wp2_with fail
            refine (HV.out w2).mono ?_
            rintro e w3 ⟨rfl, hb3⟩
            have f3 := (bcell hb3).1
            have z3 := (bcell hb3).2
            have hs3 := hb3.size
            have c30 : w3.cell? ⟨w.heap.size, 0, none⟩ = some (.int .i64 0) := by rw [f3 _ _ (by omega), c20]
            have c31 : w3.cell? ⟨w.heap.size, 1, none⟩ = some (.string ⟨#[]⟩) := by rw [f3 _ _ (by omega), c21]
            have d30 : w3.frozen? ⟨w.heap.size, 0, none⟩ = false := by rw [z3 _ _ (by omega), d20]
            have d31 : w3.frozen? ⟨w.heap.size, 1, none⟩ = false := by rw [z3 _ _ (by omega), d21]
            have b3 := b2.trans (hb3.mono b2.size)
            clear f3 z3 c20 c21 d20 d21 b2 hb3 HV
            go_wp2_with fail
            refine bodyPost_ret (v := .tuple #[.agg #[.int .i64 n1, .string RR], .int .i64 0]) (by simp [results, Tryd.results13, go_sem, c30, c31]) rfl ⟨by rw [hR2.out], ?_⟩
            exact (b3.setCell (p := ⟨w.heap.size, 0, none⟩) (Nat.le_refl _) _).setCell (p := ⟨w.heap.size, 1, none⟩) (Nat.le_refl _) _
      · have hx3 : (((bs d).size : Int) != 3) = false := by rw [bne_eq_false_iff_eq]; omega
        have hx0 : (n2 != 0) = true := by rw [bne_iff_ne]; exact he
        have hR2 : Hid (R = .tuple #[.agg #[.int .i64 0, .string ⟨#[]⟩], .int .i64 2]) := by
          show _ = _
          rw [hR, if_neg (fun h => he h.2.2.1)]; rfl
        clear hl hds hdl he
        clear hR
        generalize bs a = A at *
        generalize bs d = D at *
        generalize bs r = RR at *
        go_enter Tryd.func13, Tryd.ntmps13
        go_wp2_with fail
        refine (HS.out _).mono ?_
        rintro e w' ⟨rfl, rfl⟩
        go_wp2_with fail
        refine HC.out.mono ?_
        rintro e w1 ⟨rfl, hb1⟩
        have f1 := (bcell hb1).1 w.heap.size
        have z1 := (bcell hb1).2 w.heap.size
        have hs1 := hb1.size
        simp at hs1
        have c0 : w1.cell? ⟨w.heap.size, 0, none⟩ = some (.int .i64 0) := by rw [f1 0 (by simp)]; simp
        have c1 : w1.cell? ⟨w.heap.size, 1, none⟩ = some (.string ⟨#[]⟩) := by rw [f1 1 (by simp)]; simp
        have d0 : w1.frozen? ⟨w.heap.size, 0, none⟩ = false := by rw [z1 0 (by simp)]; simp
        have d1 : w1.frozen? ⟨w.heap.size, 1, none⟩ = false := by rw [z1 1 (by simp)]; simp
        have b1 := L0.trans (hb1.mono (by simp))
        have Y1 : Hid (Syn w1) := HY.out.below hb1
        clear f1 z1 L0 HC HS hb1 HY
        go_wp2_with fail
        refine (HD.out w1 Y1.out).mono ?_
        rintro e w2 ⟨rfl, hb2⟩
        have f2 := (bcell hb2).1
        have z2 := (bcell hb2).2
        have hs2 := hb2.size
        have c20 : w2.cell? ⟨w.heap.size, 0, none⟩ = some (.int .i64 0) := by rw [f2 _ _ (by omega), c0]
        have c21 : w2.cell? ⟨w.heap.size, 1, none⟩ = some (.string ⟨#[]⟩) := by rw [f2 _ _ (by omega), c1]
        have d20 : w2.frozen? ⟨w.heap.size, 0, none⟩ = false := by rw [z2 _ _ (by omega), d0]
        have d21 : w2.frozen? ⟨w.heap.size, 1, none⟩ = false := by rw [z2 _ _ (by omega), d1]
        have b2 := b1.trans (hb2.mono b1.size)
        clear f2 z2 c0 c1 d0 d1 b1 hb2 Y1 HD
        go_wp2_with fail
        refine bodyPost_ret (v := .tuple #[.agg #[.int .i64 0, .string ⟨#[]⟩], .int .i64 2]) (by simp [results, Tryd.results13, go_sem, c20, c21]) rfl ⟨by rw [hR2.out], ?_⟩
        exact (b2.setCell (p := ⟨w.heap.size, 0, none⟩) (Nat.le_refl _) _).setCell (p := ⟨w.heap.size, 1, none⟩) (Nat.le_refl _) _
    · have hx3 : (((bs d).size : Int) != 3) = true := by rw [bne_iff_ne]; omega
      have hR2 : Hid (R = .tuple #[.agg #[.int .i64 0, .string ⟨#[]⟩], .int .i64 2]) := by
        show _ = _
        rw [hR, if_neg (fun h => hl h.2.1)]; rfl
      clear hl hds hdl
      clear hR
      generalize bs a = A at *
      generalize bs d = D at *
      generalize bs r = RR at *
      go_enter Tryd.func13, Tryd.ntmps13
      go_wp2_with fail
      refine (HS.out _).mono ?_
      rintro e w' ⟨rfl, rfl⟩
      go_wp2_with fail
      refine HC.out.mono ?_
      rintro e w1 ⟨rfl, hb1⟩
      have f1 := (bcell hb1).1 w.heap.size
      have z1 := (bcell hb1).2 w.heap.size
      have hs1 := hb1.size
      simp at hs1
      have c0 : w1.cell? ⟨w.heap.size, 0, none⟩ = some (.int .i64 0) := by rw [f1 0 (by simp)]; simp
      have c1 : w1.cell? ⟨w.heap.size, 1, none⟩ = some (.string ⟨#[]⟩) := by rw [f1 1 (by simp)]; simp
      have d0 : w1.frozen? ⟨w.heap.size, 0, none⟩ = false := by rw [z1 0 (by simp)]; simp
      have d1 : w1.frozen? ⟨w.heap.size, 1, none⟩ = false := by rw [z1 1 (by simp)]; simp
      have b1 := L0.trans (hb1.mono (by simp))
      have Y1 : Hid (Syn w1) := HY.out.below hb1
      clear f1 z1 L0 HC HS hb1 HY
      go_wp2_with fail
      refine (HD.out w1 Y1.out).mono ?_
      rintro e w2 ⟨rfl, hb2⟩
      have f2 := (bcell hb2).1
      have z2 := (bcell hb2).2
      have hs2 := hb2.size
      have c20 : w2.cell? ⟨w.heap.size, 0, none⟩ = some (.int .i64 0) := by rw [f2 _ _ (by omega), c0]
      have c21 : w2.cell? ⟨w.heap.size, 1, none⟩ = some (.string ⟨#[]⟩) := by rw [f2 _ _ (by omega), c1]
      have d20 : w2.frozen? ⟨w.heap.size, 0, none⟩ = false := by rw [z2 _ _ (by omega), d0]
      have d21 : w2.frozen? ⟨w.heap.size, 1, none⟩ = false := by rw [z2 _ _ (by omega), d1]
      have b2 := b1.trans (hb2.mono b1.size)
      clear f2 z2 c0 c1 d0 d1 b1 hb2 Y1 HD
      go_wp2_with fail
      refine bodyPost_ret (v := .tuple #[.agg #[.int .i64 0, .string ⟨#[]⟩], .int .i64 2]) (by simp [results, Tryd.results13, go_sem, c20, c21]) rfl ⟨by rw [hR2.out], ?_⟩
      exact (b2.setCell (p := ⟨w.heap.size, 0, none⟩) (Nat.le_refl _) _).setCell (p := ⟨w.heap.size, 1, none⟩) (Nat.le_refl _) _
end Go.Proofs.YtkajfocjpaemgaaDoor
