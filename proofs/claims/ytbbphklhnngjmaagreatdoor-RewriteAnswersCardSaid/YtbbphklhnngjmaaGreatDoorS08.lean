/- Packed: StD, Reg, RegT, StF, StG, StH, Rec. -/
import Derived.Deep.RegionHeld3
import Derived.Deep.MidRow
import Derived.WideKeyArr2
import Derived.Test.YtbbphklhnngjmaaGreatDoorS00
import Derived.Test.YtbbphklhnngjmaaGreatDoorS07
/- start: ParseStatus. -/
namespace Go.Proofs.YtbbphklhnngjmaaGreatDoor
open Go.RowKit

def stO (o : Option Sta) : Value := match o with
  | some s => .tuple #[.agg #[.int .i64 s.1, .string (bs s.2)], .int .i64 0]
  | none => .tuple #[.agg #[.int .i64 0, .string ⟨#[]⟩], .int .i64 2]
theorem dec_l (d : List UInt8) (hd : d.length ≤ 4000000000) (n1 n2 : Int) (h : numR 10 10 isDec d 599 = (n1, n2)) (w : World) (hw : Syn w) :
    Calls Tryz.prog 136 #[.string (bs d), .int .i64 599] w fun e w' => e = .returned (.tuple #[.int .i64 n1, .int .i64 n2]) ∧ Below w.heap.size w w' := by
  have e := dec_any (bs d) (by rw [bs_size]; omega) 599 w hw
  rw [bs_list, h] at e
  exact e
set_option maxRecDepth 100000 in
set_option maxHeartbeats 8000000 in
theorem pst13 (s : ByteArray) (hs : s.size ≤ 4000000000) (w : World) (hw : MaxL w) (hy : Syn w) :
    Calls Tryz.prog 117 #[.string s] w fun e w' => e = .returned (stO (stP s.data.toList)) ∧ Below w.heap.size w w' := by
  obtain ⟨R, hR⟩ : ∃ R, R = stO (stP s.data.toList) := ⟨_, rfl⟩
  rw [← hR]
  have hz := Lib.size_eq s
  have L0 := below_alloc w (.cells #[.int .i64 0, .string ⟨#[]⟩] 29)
  have hmx := hw.below L0
  obtain ⟨a, ha⟩ : ∃ a, Lib.trimPrefix s.data.toList pfxL = a := ⟨_, rfl⟩
  obtain ⟨q0, h0⟩ : ∃ q, Lib.hasPrefix s.data.toList pfxL = q := ⟨_, rfl⟩
  have hal : a.length ≤ 4000000000 := by rw [← ha]; exact Nat.le_trans (Lib.trimPrefix_le _ _) (by omega)
  obtain ⟨d, r, q, hc⟩ : ∃ d r q, Lib.cut a [32] = (d, r, q) := ⟨_, _, _, rfl⟩
  have hdr := cut_lens 32 a d r q hc
  have hdl : d.length ≤ 4000000000 := by omega
  have hrl : r.length ≤ 4000000000 := by omega
  obtain ⟨n1, n2, hn⟩ : ∃ n1 n2, numR 10 10 isDec d 599 = (n1, n2) := ⟨_, _, rfl⟩
  obtain ⟨qv, hqv⟩ : ∃ q, valB r = q := ⟨_, rfl⟩
  have hrv : stP s.data.toList = if q0 = true ∧ d.length = 3 ∧ n2 = 0 ∧ ¬ n1 < 200 ∧ qv = true then some (n1, r) else none := by
    unfold stP
    simp only [ha, h0, hc, hn, hqv]
  rw [hrv] at hR
  have HS := Lib.hid (fun W => pfx_c s a q0 ha h0 W)
  have HC := Lib.hid (cut_c 32 (bs a) (by rw [bs_size]; exact hal) d r q hc _ hmx)
  have HD := Lib.hid (fun W hW => dec_l d hdl n1 n2 hn W hW)
  have HV := Lib.hid (fun W => value_l r hrl qv hqv W)
  have HY := Lib.hid (hy.below L0)
  have hds : (bs d).size = d.length := bs_size d
  clear hrv hn hc ha h0 hz hw hy hmx hdr hrl hal hqv
  cases q0
  · have hdl2 := hdl
    clear hdl
    have hR2 : Hid (R = .tuple #[.agg #[.int .i64 0, .string ⟨#[]⟩], .int .i64 2]) := by
      show _ = _
      rw [hR, if_neg (fun h => absurd h.1 (by simp))]; rfl
    clear hds hdl2
    clear hR
    generalize bs a = A at *
    generalize bs d = D at *
    generalize bs r = RR at *
    go_enter Tryz.func117, Tryz.ntmps117
    go_wp2_with fail
    refine (HS.out _).mono ?_
    rintro e w' ⟨rfl, rfl⟩
    go_wp2_with fail
    refine HC.out.mono ?_
    rintro e w1 ⟨rfl, hb1⟩
    have f1 := (bcell hb1).1 w.heap.size
    have z1 := (bcell hb1).2 w.heap.size
    have hs1 := hb1.size
    simp at hs1
    have c0 : w1.cell? ⟨w.heap.size, 0, none⟩ = some (.int .i64 0) := by rw [f1 0 (by simp)]; simp
    have c1 : w1.cell? ⟨w.heap.size, 1, none⟩ = some (.string ⟨#[]⟩) := by rw [f1 1 (by simp)]; simp
    have d0 : w1.frozen? ⟨w.heap.size, 0, none⟩ = false := by rw [z1 0 (by simp)]; simp
    have d1 : w1.frozen? ⟨w.heap.size, 1, none⟩ = false := by rw [z1 1 (by simp)]; simp
    have b1 := L0.trans (hb1.mono (by simp))
    have Y1 : Hid (Syn w1) := HY.out.below hb1
    clear f1 z1 L0 HC HS hb1 HY
    go_wp2_with fail
    refine (HD.out w1 Y1.out).mono ?_
    rintro e w2 ⟨rfl, hb2⟩
    have f2 := (bcell hb2).1
    have z2 := (bcell hb2).2
    have hs2 := hb2.size
    have c20 : w2.cell? ⟨w.heap.size, 0, none⟩ = some (.int .i64 0) := by rw [f2 _ _ (by omega), c0]
    have c21 : w2.cell? ⟨w.heap.size, 1, none⟩ = some (.string ⟨#[]⟩) := by rw [f2 _ _ (by omega), c1]
    have d20 : w2.frozen? ⟨w.heap.size, 0, none⟩ = false := by rw [z2 _ _ (by omega), d0]
    have d21 : w2.frozen? ⟨w.heap.size, 1, none⟩ = false := by rw [z2 _ _ (by omega), d1]
    have b2 := b1.trans (hb2.mono b1.size)
    clear f2 z2 c0 c1 d0 d1 b1 hb2 Y1 HD
    go_wp2_with fail
    refine bodyPost_ret (v := .tuple #[.agg #[.int .i64 0, .string ⟨#[]⟩], .int .i64 2]) (by simp [results, Tryz.results117, go_sem, c20, c21]) rfl ⟨by rw [hR2.out], ?_⟩
    exact (b2.setCell (p := ⟨w.heap.size, 0, none⟩) (Nat.le_refl _) _).setCell (p := ⟨w.heap.size, 1, none⟩) (Nat.le_refl _) _
  · by_cases hl : d.length = 3
    · by_cases he : n2 = 0
      · by_cases hcode : n1 < 200
        · have hx3 : (((bs d).size : Int) != 3) = false := by rw [bne_eq_false_iff_eq]; omega
          have hR2 : Hid (R = .tuple #[.agg #[.int .i64 0, .string ⟨#[]⟩], .int .i64 2]) := by
            show _ = _
            rw [hR, if_neg (fun h => h.2.2.2.1 hcode)]; rfl
          subst he
          clear hl hds hdl
          clear hR
          generalize bs a = A at *
          generalize bs d = D at *
          generalize bs r = RR at *
          go_enter Tryz.func117, Tryz.ntmps117
          go_wp2_with fail
          refine (HS.out _).mono ?_
          rintro e w' ⟨rfl, rfl⟩
          go_wp2_with fail
          refine HC.out.mono ?_
          rintro e w1 ⟨rfl, hb1⟩
          have f1 := (bcell hb1).1 w.heap.size
          have z1 := (bcell hb1).2 w.heap.size
          have hs1 := hb1.size
          simp at hs1
          have c0 : w1.cell? ⟨w.heap.size, 0, none⟩ = some (.int .i64 0) := by rw [f1 0 (by simp)]; simp
          have c1 : w1.cell? ⟨w.heap.size, 1, none⟩ = some (.string ⟨#[]⟩) := by rw [f1 1 (by simp)]; simp
          have d0 : w1.frozen? ⟨w.heap.size, 0, none⟩ = false := by rw [z1 0 (by simp)]; simp
          have d1 : w1.frozen? ⟨w.heap.size, 1, none⟩ = false := by rw [z1 1 (by simp)]; simp
          have b1 := L0.trans (hb1.mono (by simp))
          have Y1 : Hid (Syn w1) := HY.out.below hb1
          clear f1 z1 L0 HC HS hb1 HY
          go_wp2_with fail
          refine (HD.out w1 Y1.out).mono ?_
          rintro e w2 ⟨rfl, hb2⟩
          have f2 := (bcell hb2).1
          have z2 := (bcell hb2).2
          have hs2 := hb2.size
          have c20 : w2.cell? ⟨w.heap.size, 0, none⟩ = some (.int .i64 0) := by rw [f2 _ _ (by omega), c0]
          have c21 : w2.cell? ⟨w.heap.size, 1, none⟩ = some (.string ⟨#[]⟩) := by rw [f2 _ _ (by omega), c1]
          have d20 : w2.frozen? ⟨w.heap.size, 0, none⟩ = false := by rw [z2 _ _ (by omega), d0]
          have d21 : w2.frozen? ⟨w.heap.size, 1, none⟩ = false := by rw [z2 _ _ (by omega), d1]
          have b2 := b1.trans (hb2.mono b1.size)
          clear f2 z2 c0 c1 d0 d1 b1 hb2 Y1 HD
          go_wp2_with fail
          refine bodyPost_ret (v := .tuple #[.agg #[.int .i64 0, .string ⟨#[]⟩], .int .i64 2]) (by simp [results, Tryz.results117, go_sem, c20, c21]) rfl ⟨by rw [hR2.out], ?_⟩
          exact (b2.setCell (p := ⟨w.heap.size, 0, none⟩) (Nat.le_refl _) _).setCell (p := ⟨w.heap.size, 1, none⟩) (Nat.le_refl _) _
        · have hx3 : (((bs d).size : Int) != 3) = false := by rw [bne_eq_false_iff_eq]; omega
          cases qv
          · have hR2 : Hid (R = .tuple #[.agg #[.int .i64 0, .string ⟨#[]⟩], .int .i64 2]) := by
              show _ = _
              rw [hR, if_neg (fun h => absurd h.2.2.2.2 (by simp))]; rfl
            subst he
            clear hl hds hdl
            clear hR
            generalize bs a = A at *
            generalize bs d = D at *
            generalize bs r = RR at *
            go_enter Tryz.func117, Tryz.ntmps117
            go_wp2_with fail
            refine (HS.out _).mono ?_
            rintro e w' ⟨rfl, rfl⟩
            go_wp2_with fail
            refine HC.out.mono ?_
            rintro e w1 ⟨rfl, hb1⟩
            have f1 := (bcell hb1).1 w.heap.size
            have z1 := (bcell hb1).2 w.heap.size
            have hs1 := hb1.size
            simp at hs1
            have c0 : w1.cell? ⟨w.heap.size, 0, none⟩ = some (.int .i64 0) := by rw [f1 0 (by simp)]; simp
            have c1 : w1.cell? ⟨w.heap.size, 1, none⟩ = some (.string ⟨#[]⟩) := by rw [f1 1 (by simp)]; simp
            have d0 : w1.frozen? ⟨w.heap.size, 0, none⟩ = false := by rw [z1 0 (by simp)]; simp
            have d1 : w1.frozen? ⟨w.heap.size, 1, none⟩ = false := by rw [z1 1 (by simp)]; simp
            have b1 := L0.trans (hb1.mono (by simp))
            have Y1 : Hid (Syn w1) := HY.out.below hb1
            clear f1 z1 L0 HC HS hb1 HY
            go_wp2_with fail
            refine (HD.out w1 Y1.out).mono ?_
            rintro e w2 ⟨rfl, hb2⟩
            have f2 := (bcell hb2).1
            have z2 := (bcell hb2).2
            have hs2 := hb2.size
            have c20 : w2.cell? ⟨w.heap.size, 0, none⟩ = some (.int .i64 0) := by rw [f2 _ _ (by omega), c0]
            have c21 : w2.cell? ⟨w.heap.size, 1, none⟩ = some (.string ⟨#[]⟩) := by rw [f2 _ _ (by omega), c1]
            have d20 : w2.frozen? ⟨w.heap.size, 0, none⟩ = false := by rw [z2 _ _ (by omega), d0]
            have d21 : w2.frozen? ⟨w.heap.size, 1, none⟩ = false := by rw [z2 _ _ (by omega), d1]
            have b2 := b1.trans (hb2.mono b1.size)
            clear f2 z2 c0 c1 d0 d1 b1 hb2 Y1 HD
            go_wp2_with fail
            refine (HV.out w2).mono ?_
            rintro e w3 ⟨rfl, hb3⟩
            have f3 := (bcell hb3).1
            have z3 := (bcell hb3).2
            have hs3 := hb3.size
            have c30 : w3.cell? ⟨w.heap.size, 0, none⟩ = some (.int .i64 0) := by rw [f3 _ _ (by omega), c20]
            have c31 : w3.cell? ⟨w.heap.size, 1, none⟩ = some (.string ⟨#[]⟩) := by rw [f3 _ _ (by omega), c21]
            have d30 : w3.frozen? ⟨w.heap.size, 0, none⟩ = false := by rw [z3 _ _ (by omega), d20]
            have d31 : w3.frozen? ⟨w.heap.size, 1, none⟩ = false := by rw [z3 _ _ (by omega), d21]
            have b3 := b2.trans (hb3.mono b2.size)
            clear f3 z3 c20 c21 d20 d21 b2 hb3 HV
            go_wp2_with fail
            refine bodyPost_ret (v := .tuple #[.agg #[.int .i64 0, .string ⟨#[]⟩], .int .i64 2]) (by simp [results, Tryz.results117, go_sem, c30, c31]) rfl ⟨by rw [hR2.out], ?_⟩
            exact (b3.setCell (p := ⟨w.heap.size, 0, none⟩) (Nat.le_refl _) _).setCell (p := ⟨w.heap.size, 1, none⟩) (Nat.le_refl _) _
          · have hR2 : Hid (R = .tuple #[.agg #[.int .i64 n1, .string (bs r)], .int .i64 0]) := by
              show _ = _
              rw [hR, if_pos ⟨rfl, hl, he, hcode, rfl⟩]; rfl
            subst he
            clear hl hds hdl
            clear hR
            generalize bs a = A at *
            generalize bs d = D at *
            generalize bs r = RR at *
            go_enter Tryz.func117, Tryz.ntmps117
            go_wp2_with fail
            refine (HS.out _).mono ?_
            rintro e w' ⟨rfl, rfl⟩
            go_wp2_with fail
            refine HC.out.mono ?_
            rintro e w1 ⟨rfl, hb1⟩
            have f1 := (bcell hb1).1 w.heap.size
            have z1 := (bcell hb1).2 w.heap.size
            have hs1 := hb1.size
            simp at hs1
            have c0 : w1.cell? ⟨w.heap.size, 0, none⟩ = some (.int .i64 0) := by rw [f1 0 (by simp)]; simp
            have c1 : w1.cell? ⟨w.heap.size, 1, none⟩ = some (.string ⟨#[]⟩) := by rw [f1 1 (by simp)]; simp
            have d0 : w1.frozen? ⟨w.heap.size, 0, none⟩ = false := by rw [z1 0 (by simp)]; simp
            have d1 : w1.frozen? ⟨w.heap.size, 1, none⟩ = false := by rw [z1 1 (by simp)]; simp
            have b1 := L0.trans (hb1.mono (by simp))
            have Y1 : Hid (Syn w1) := HY.out.below hb1
            clear f1 z1 L0 HC HS hb1 HY
            go_wp2_with fail
            refine (HD.out w1 Y1.out).mono ?_
            rintro e w2 ⟨rfl, hb2⟩
            have f2 := (bcell hb2).1
            have z2 := (bcell hb2).2
            have hs2 := hb2.size
            have c20 : w2.cell? ⟨w.heap.size, 0, none⟩ = some (.int .i64 0) := by rw [f2 _ _ (by omega), c0]
            have c21 : w2.cell? ⟨w.heap.size, 1, none⟩ = some (.string ⟨#[]⟩) := by rw [f2 _ _ (by omega), c1]
            have d20 : w2.frozen? ⟨w.heap.size, 0, none⟩ = false := by rw [z2 _ _ (by omega), d0]
            have d21 : w2.frozen? ⟨w.heap.size, 1, none⟩ = false := by rw [z2 _ _ (by omega), d1]
            have b2 := b1.trans (hb2.mono b1.size)
            clear f2 z2 c0 c1 d0 d1 b1 hb2 Y1 HD
            go_wp2_with fail
            refine (HV.out w2).mono ?_
            rintro e w3 ⟨rfl, hb3⟩
            have f3 := (bcell hb3).1
            have z3 := (bcell hb3).2
            have hs3 := hb3.size
            have c30 : w3.cell? ⟨w.heap.size, 0, none⟩ = some (.int .i64 0) := by rw [f3 _ _ (by omega), c20]
            have c31 : w3.cell? ⟨w.heap.size, 1, none⟩ = some (.string ⟨#[]⟩) := by rw [f3 _ _ (by omega), c21]
            have d30 : w3.frozen? ⟨w.heap.size, 0, none⟩ = false := by rw [z3 _ _ (by omega), d20]
            have d31 : w3.frozen? ⟨w.heap.size, 1, none⟩ = false := by rw [z3 _ _ (by omega), d21]
            have b3 := b2.trans (hb3.mono b2.size)
            clear f3 z3 c20 c21 d20 d21 b2 hb3 HV
            go_wp2_with fail
            refine bodyPost_ret (v := .tuple #[.agg #[.int .i64 n1, .string RR], .int .i64 0]) (by simp [results, Tryz.results117, go_sem, c30, c31]) rfl ⟨by rw [hR2.out], ?_⟩
            exact (b3.setCell (p := ⟨w.heap.size, 0, none⟩) (Nat.le_refl _) _).setCell (p := ⟨w.heap.size, 1, none⟩) (Nat.le_refl _) _
      · have hx3 : (((bs d).size : Int) != 3) = false := by rw [bne_eq_false_iff_eq]; omega
        have hx0 : (n2 != 0) = true := by rw [bne_iff_ne]; exact he
        have hR2 : Hid (R = .tuple #[.agg #[.int .i64 0, .string ⟨#[]⟩], .int .i64 2]) := by
          show _ = _
          rw [hR, if_neg (fun h => he h.2.2.1)]; rfl
        clear hl hds hdl he
        clear hR
        generalize bs a = A at *
        generalize bs d = D at *
        generalize bs r = RR at *
        go_enter Tryz.func117, Tryz.ntmps117
        go_wp2_with fail
        refine (HS.out _).mono ?_
        rintro e w' ⟨rfl, rfl⟩
        go_wp2_with fail
        refine HC.out.mono ?_
        rintro e w1 ⟨rfl, hb1⟩
        have f1 := (bcell hb1).1 w.heap.size
        have z1 := (bcell hb1).2 w.heap.size
        have hs1 := hb1.size
        simp at hs1
        have c0 : w1.cell? ⟨w.heap.size, 0, none⟩ = some (.int .i64 0) := by rw [f1 0 (by simp)]; simp
        have c1 : w1.cell? ⟨w.heap.size, 1, none⟩ = some (.string ⟨#[]⟩) := by rw [f1 1 (by simp)]; simp
        have d0 : w1.frozen? ⟨w.heap.size, 0, none⟩ = false := by rw [z1 0 (by simp)]; simp
        have d1 : w1.frozen? ⟨w.heap.size, 1, none⟩ = false := by rw [z1 1 (by simp)]; simp
        have b1 := L0.trans (hb1.mono (by simp))
        have Y1 : Hid (Syn w1) := HY.out.below hb1
        clear f1 z1 L0 HC HS hb1 HY
        go_wp2_with fail
        refine (HD.out w1 Y1.out).mono ?_
        rintro e w2 ⟨rfl, hb2⟩
        have f2 := (bcell hb2).1
        have z2 := (bcell hb2).2
        have hs2 := hb2.size
        have c20 : w2.cell? ⟨w.heap.size, 0, none⟩ = some (.int .i64 0) := by rw [f2 _ _ (by omega), c0]
        have c21 : w2.cell? ⟨w.heap.size, 1, none⟩ = some (.string ⟨#[]⟩) := by rw [f2 _ _ (by omega), c1]
        have d20 : w2.frozen? ⟨w.heap.size, 0, none⟩ = false := by rw [z2 _ _ (by omega), d0]
        have d21 : w2.frozen? ⟨w.heap.size, 1, none⟩ = false := by rw [z2 _ _ (by omega), d1]
        have b2 := b1.trans (hb2.mono b1.size)
        clear f2 z2 c0 c1 d0 d1 b1 hb2 Y1 HD
        go_wp2_with fail
        refine bodyPost_ret (v := .tuple #[.agg #[.int .i64 0, .string ⟨#[]⟩], .int .i64 2]) (by simp [results, Tryz.results117, go_sem, c20, c21]) rfl ⟨by rw [hR2.out], ?_⟩
        exact (b2.setCell (p := ⟨w.heap.size, 0, none⟩) (Nat.le_refl _) _).setCell (p := ⟨w.heap.size, 1, none⟩) (Nat.le_refl _) _
    · have hx3 : (((bs d).size : Int) != 3) = true := by rw [bne_iff_ne]; omega
      have hR2 : Hid (R = .tuple #[.agg #[.int .i64 0, .string ⟨#[]⟩], .int .i64 2]) := by
        show _ = _
        rw [hR, if_neg (fun h => hl h.2.1)]; rfl
      clear hl hds hdl
      clear hR
      generalize bs a = A at *
      generalize bs d = D at *
      generalize bs r = RR at *
      go_enter Tryz.func117, Tryz.ntmps117
      go_wp2_with fail
      refine (HS.out _).mono ?_
      rintro e w' ⟨rfl, rfl⟩
      go_wp2_with fail
      refine HC.out.mono ?_
      rintro e w1 ⟨rfl, hb1⟩
      have f1 := (bcell hb1).1 w.heap.size
      have z1 := (bcell hb1).2 w.heap.size
      have hs1 := hb1.size
      simp at hs1
      have c0 : w1.cell? ⟨w.heap.size, 0, none⟩ = some (.int .i64 0) := by rw [f1 0 (by simp)]; simp
      have c1 : w1.cell? ⟨w.heap.size, 1, none⟩ = some (.string ⟨#[]⟩) := by rw [f1 1 (by simp)]; simp
      have d0 : w1.frozen? ⟨w.heap.size, 0, none⟩ = false := by rw [z1 0 (by simp)]; simp
      have d1 : w1.frozen? ⟨w.heap.size, 1, none⟩ = false := by rw [z1 1 (by simp)]; simp
      have b1 := L0.trans (hb1.mono (by simp))
      have Y1 : Hid (Syn w1) := HY.out.below hb1
      clear f1 z1 L0 HC HS hb1 HY
      go_wp2_with fail
      refine (HD.out w1 Y1.out).mono ?_
      rintro e w2 ⟨rfl, hb2⟩
      have f2 := (bcell hb2).1
      have z2 := (bcell hb2).2
      have hs2 := hb2.size
      have c20 : w2.cell? ⟨w.heap.size, 0, none⟩ = some (.int .i64 0) := by rw [f2 _ _ (by omega), c0]
      have c21 : w2.cell? ⟨w.heap.size, 1, none⟩ = some (.string ⟨#[]⟩) := by rw [f2 _ _ (by omega), c1]
      have d20 : w2.frozen? ⟨w.heap.size, 0, none⟩ = false := by rw [z2 _ _ (by omega), d0]
      have d21 : w2.frozen? ⟨w.heap.size, 1, none⟩ = false := by rw [z2 _ _ (by omega), d1]
      have b2 := b1.trans (hb2.mono b1.size)
      clear f2 z2 c0 c1 d0 d1 b1 hb2 Y1 HD
      go_wp2_with fail
      refine bodyPost_ret (v := .tuple #[.agg #[.int .i64 0, .string ⟨#[]⟩], .int .i64 2]) (by simp [results, Tryz.results117, go_sem, c20, c21]) rfl ⟨by rw [hR2.out], ?_⟩
      exact (b2.setCell (p := ⟨w.heap.size, 0, none⟩) (Nat.le_refl _) _).setCell (p := ⟨w.heap.size, 1, none⟩) (Nat.le_refl _) _
end Go.Proofs.YtbbphklhnngjmaaGreatDoor

/- A region that draws its order, by an invariant: one step for each operation, whatever the order. -/
namespace Go.Proofs.YtbbphklhnngjmaaGreatDoor
open Go.RowKit

/-- The frame with the operations' values in their slots. -/
def actOf : List Oper → (Nat → Value) → Nat → Act → Act
  | [], _, _, a => a
  | o :: r, x, i, a => (actOf r x (i + 1) a).put o.dst (x i)
def setL (L : Nat → Bool) (i : Nat) : Nat → Bool := fun j => if j = i then true else L j
def updV (x : Nat → Value) (i : Nat) (v : Value) : Nat → Value := fun j => if j = i then v else x j
/-- What an operation waits for. -/
def predsOf (o : Oper) : List Nat := (o.after.toList.filter fun e => Region.binds .any e).map (·.on)
def AllL (L : Nat → Bool) : List Nat → Prop
  | [] => True
  | j :: r => L j = true ∧ AllL L r
theorem allL_of {L : Nat → Bool} : ∀ {l : List Nat}, (∀ j ∈ l, L j = true) → AllL L l
  | [], _ => trivial
  | j :: _, h => ⟨h j (List.mem_cons_self ..), allL_of (fun k hk => h k (List.mem_cons_of_mem _ hk))⟩
/-- Each slot is written by one operation, and is there. -/
def dstsOk : List Oper → Nat → Bool
  | [], _ => true
  | o :: r, n => (match o.dst with
    | some d => decide (d < n) && r.all fun q => q.dst != some d
    | none => true) && dstsOk r n
theorem put_same (a : Act) (d : Nat) (v u : Value) : (a.put (some d) v).put (some d) u = a.put (some d) u := by
  simp [Act.put, Array.setIfInBounds_setIfInBounds]
theorem actOf_put : ∀ (l : List Oper) (n : Nat) (x : Nat → Value) (k : Nat) (a : Act), dstsOk l n = true → ∀ (i : Nat) (o : Oper), l[i]? = some o → ∀ v, (actOf l x k a).put o.dst v = actOf l (updV x (k + i) v) k a
  | [], _, _, _, _, _, i, o, h, _ => by simp at h
  | p :: r, n, x, k, a, hd, i, o, h, v => by
    simp only [dstsOk, Bool.and_eq_true] at hd
    match i, h with
    | 0, h =>
      obtain rfl : p = o := Option.some.inj h
      have hrest : ∀ (l : List Oper) (m : Nat), k < m → actOf l (updV x k v) m a = actOf l x m a := by
        intro l
        induction l with
        | nil => intro m _; rfl
        | cons q l ih =>
          intro m hm
          simp only [actOf, ih (m + 1) (by omega)]
          rw [show updV x k v m = x m from if_neg (by omega)]
      simp only [actOf, Nat.add_zero, hrest r (k + 1) (by omega)]
      rw [show updV x k v k = v from if_pos rfl]
      cases hp : p.dst with
      | none => rfl
      | some d => exact put_same _ _ _ _
    | i + 1, h =>
      have h' : r[i]? = some o := h
      have ih := actOf_put r n x (k + 1) a hd.2 i o h' v
      simp only [actOf]
      rw [show updV x (k + (i + 1)) v k = x k from if_neg (by omega), show k + (i + 1) = k + 1 + i by omega, ← ih]
      refine (Act.put_comm _ _ _ fun d hdd => ?_)
      have := hd.1
      rw [hdd] at this
      simp only [Bool.and_eq_true, List.all_eq_true] at this
      have := this.2 o (List.mem_of_getElem? h')
      simpa using this
/-- The values at the start. -/
def valsAt (l : List Oper) (a : Act) (i : Nat) : Value :=
  match l[i]? with
  | some o => match o.dst with
    | some d => a.tmps.getD d undef
    | none => undef
  | none => undef
theorem actOf_self : ∀ (l : List Oper) (x : Nat → Value) (k : Nat) (a : Act), dstsOk l a.tmps.size = true → (∀ i, x (k + i) = valsAt l a i) → actOf l x k a = a
  | [], _, _, _, _, _ => rfl
  | o :: r, x, k, a, hd, hx => by
    simp only [dstsOk, Bool.and_eq_true] at hd
    simp only [actOf]
    rw [actOf_self r x (k + 1) a hd.2 (fun i => by rw [show k + 1 + i = k + (i + 1) by omega, hx (i + 1)]; rfl)]
    have h0 := hx 0
    cases ho : o.dst with
    | none => rfl
    | some d =>
      have hlt := hd.1
      rw [ho] at hlt
      simp only [Bool.and_eq_true, decide_eq_true_eq] at hlt
      simp only [valsAt, List.getElem?_cons_zero, ho, Nat.add_zero] at h0
      rw [h0]
      simp only [Act.put]
      congr 1
      apply Array.ext
      · simp
      · intro j h1 h2
        rw [Array.getElem_setIfInBounds]
        split
        · rename_i e; subst e; simp [Array.getD, hlt.1]
        · rfl

/-- Each operation waits for earlier ones alone. -/
def edgesDown : List Oper → Nat → Bool
  | [], _ => true
  | o :: r, i => (predsOf o).all (fun j => decide (j < i)) && edgesDown r (i + 1)
theorem edgesDown_at : ∀ {l : List Oper} {k i : Nat} {o : Oper}, edgesDown l k = true → l[i]? = some o → ∀ j ∈ predsOf o, j < k + i
  | [], _, i, _, _, h, _, _ => by simp at h
  | p :: r, k, i, o, hd, h, j, hj => by
    simp only [edgesDown, Bool.and_eq_true, List.all_eq_true, decide_eq_true_eq] at hd
    match i, h with
    | 0, h => obtain rfl : p = o := Option.some.inj h; exact hd.1 j hj
    | i + 1, h => have := edgesDown_at hd.2 (show r[i]? = some o from h) j hj; omega
theorem listed_preds {ops : Array Oper} {listed : Array Bool} {i : Nat} {o : Oper} (hi : i ∈ Region.ready .any ops listed) (ho : ops[i]? = some o) : AllL (fun j => listed.getD j false) (predsOf o) := by
  obtain ⟨_, o', ho', hall⟩ := mem_ready.1 hi
  obtain rfl : o = o' := Option.some.inj (ho.symm.trans ho')
  refine allL_of fun j hj => ?_
  simp only [predsOf, List.mem_map, List.mem_filter, Array.mem_toList_iff] at hj
  obtain ⟨e, ⟨he, hb⟩, rfl⟩ := hj
  exact hall e he hb
theorem ready_nil {ops : Array Oper} {listed : Array Bool} (hd : edgesDown ops.toList 0 = true) (hs : listed.size = ops.size) (h : Region.ready .any ops listed = []) : ∀ i, i < ops.size → listed.getD i false = true := by
  intro i
  induction i using Nat.strongRecOn with
  | ind i ih =>
    intro hi
    cases hl : listed.getD i false with
    | true => rfl
    | false =>
      have hm : i ∈ Region.ready .any ops listed := by
        refine mem_ready.2 ⟨?_, ops[i], by simp [hi], fun e he hb => ?_⟩
        · simpa [Array.getD, hs, hi] using hl
        · have hlt := edgesDown_at (i := i) (o := ops[i]) hd (by simp [hi]) e.on (by
            simp only [predsOf, List.mem_map, List.mem_filter, Array.mem_toList_iff]
            exact ⟨e, ⟨he, hb⟩, rfl⟩)
          exact ih e.on (by omega) (by omega)
      rw [h] at hm
      cases hm

section
variable {P : Program} {ops : Array Oper} {Q : Exit → Act → World → Prop}

/-- Any order, by an invariant over what is listed, the values, and the world. -/
theorem wpAny_inv (a : Act) (n : Nat) (hn : dstsOk ops.toList n = true) (hd : edgesDown ops.toList 0 = true) (I : (Nat → Bool) → (Nat → Value) → World → Prop)
    (hstep : ∀ (i : Nat) (o : Oper), ops[i]? = some o → ∀ (L : Nat → Bool) (x : Nat → Value) (w : World), I L x w → L i = false → AllL L (predsOf o) →
      ∀ K : Act → World → Prop, Shut (∀ v w', I (setL L i) (updV x i v) w' → K ((actOf ops.toList x 0 a).put o.dst v) w') →
        if Region.wanted o (yielded ops (actOf ops.toList x 0 a).tmps) = true then o.wp P (actOf ops.toList x 0 a) w K Q else K ((actOf ops.toList x 0 a).put o.dst undef) w)
    (hfin : ∀ (L : Nat → Bool) (x : Nat → Value) (w : World), I L x w → (∀ i, i < ops.size → L i = true) → Q .normal (actOf ops.toList x 0 a) w) :
    ∀ (fuel : Nat) (listed : Array Bool) (x : Nat → Value) (w : World), listed.size = ops.size → I (fun i => listed.getD i false) x w →
      (∃ l : List Nat, l.length ≤ fuel ∧ ∀ i, i < ops.size → listed.getD i false = false → i ∈ l) →
      wpAny P .any ops Q fuel listed (actOf ops.toList x 0 a) w
  | 0, listed, x, w, hs, hI, ⟨l, hl, hc⟩ => by
    obtain rfl : l = [] := List.eq_nil_of_length_eq_zero (by omega)
    have hall : ∀ i, i < ops.size → listed.getD i false = true := fun i hi => by
      cases h : listed.getD i false with
      | true => rfl
      | false => have := hc i hi h; cases this
    refine ⟨?_, hfin _ x w hI hall⟩
    cases hr : Region.ready .any ops listed with
    | nil => rfl
    | cons j r =>
      have hj : j ∈ Region.ready .any ops listed := by rw [hr]; exact List.mem_cons_self ..
      obtain ⟨h1, o, ho, _⟩ := mem_ready.1 hj
      have hlt : j < ops.size := by
        rcases Nat.lt_or_ge j ops.size with h | h
        · exact h
        · rw [Array.getElem?_eq_none h] at ho; cases ho
      have h2 := hall j hlt
      simp [Array.getD, hs, hlt] at h1 h2
      rw [h2] at h1
      cases h1
  | fuel + 1, listed, x, w, hs, hI, ⟨l, hl, hc⟩ => by
    refine ⟨fun h => hfin _ x w hI (ready_nil hd hs h), fun i hi => ?_⟩
    obtain ⟨h1, o, ho, _⟩ := mem_ready.1 hi
    have hlt : i < ops.size := by
      rcases Nat.lt_or_ge i ops.size with h | h
      · exact h
      · rw [Array.getElem?_eq_none h] at ho; cases ho
    have h1' : listed.getD i false = false := by simp [Array.getD, hs, hlt] at h1 ⊢; exact h1
    refine wpOp_step ho (fun K hK => hstep i o ho _ x w hI h1' (listed_preds hi ho) K (fun v w' hI' => ?_))
    refine hK _ _ ?_
    rw [actOf_put ops.toList n x 0 a hn i o (by simpa using ho) v, Nat.zero_add]
    have hset : (fun j => (listed.setIfInBounds i true).getD j false) = setL (fun j => listed.getD j false) i := by
      funext j
      unfold setL
      by_cases e : j = i
      · subst e; rw [if_pos rfl]; simp [Array.getD, hs, hlt]
      · rw [if_neg e]
        simp only [Array.getD_eq_getD_getElem?, Array.getElem?_setIfInBounds_ne (Ne.symm e)]
    refine wpAny_inv a n hn hd I hstep hfin fuel _ _ w' (by simpa using hs) (by rw [hset]; exact hI') ⟨l.erase i, ?_, fun j hj hjl => ?_⟩
    · rw [List.length_erase_of_mem (hc i hlt h1')]; omega
    · have hji : j ≠ i := by
        rintro rfl
        simp [Array.getD, hs, hlt] at hjl
      have : listed.getD j false = false := by
        rw [Array.getD_eq_getD_getElem?, Array.getElem?_setIfInBounds_ne (Ne.symm hji), ← Array.getD_eq_getD_getElem?] at hjl
        exact hjl
      exact (List.mem_erase_of_ne hji).2 (hc j hj this)

/-- One goal for each operation. -/
def StepsAll (P : Program) (ops : Array Oper) (Q : Exit → Act → World → Prop) (a : Act) (I : (Nat → Bool) → (Nat → Value) → World → Prop) : List Oper → Nat → Prop
  | [], _ => True
  | o :: r, i => (∀ (L : Nat → Bool) (x : Nat → Value) (w : World), I L x w → L i = false → AllL L (predsOf o) →
      ∀ K : Act → World → Prop, Shut (∀ v w', I (setL L i) (updV x i v) w' → K ((actOf ops.toList x 0 a).put o.dst v) w') →
        if Region.wanted o (yielded ops (actOf ops.toList x 0 a).tmps) = true then o.wp P (actOf ops.toList x 0 a) w K Q else K ((actOf ops.toList x 0 a).put o.dst undef) w) ∧ StepsAll P ops Q a I r (i + 1)
theorem stepsAll_at {a : Act} {I : (Nat → Bool) → (Nat → Value) → World → Prop} : ∀ {l : List Oper} {k : Nat}, StepsAll P ops Q a I l k → ∀ (i : Nat) (o : Oper), l[i]? = some o → ∀ (L : Nat → Bool) (x : Nat → Value) (w : World), I L x w → L (k + i) = false → AllL L (predsOf o) →
      ∀ K : Act → World → Prop, Shut (∀ v w', I (setL L (k + i)) (updV x (k + i) v) w' → K ((actOf ops.toList x 0 a).put o.dst v) w') →
        if Region.wanted o (yielded ops (actOf ops.toList x 0 a).tmps) = true then o.wp P (actOf ops.toList x 0 a) w K Q else K ((actOf ops.toList x 0 a).put o.dst undef) w
  | [], _, _, i, _, h => by simp at h
  | p :: r, k, hs, 0, o, h => by
    obtain rfl : p = o := Option.some.inj h
    exact hs.1
  | p :: r, k, hs, i + 1, o, h => by
    have := stepsAll_at hs.2 i o h
    rw [show k + 1 + i = k + (i + 1) by omega] at this
    exact this

/-- The region. -/
theorem region_inv {id : Nat} {a : Act} {w : World} (I : (Nat → Bool) → (Nat → Value) → World → Prop) (hm : P.follows .mixedOrders = true)
    (hn : dstsOk ops.toList a.tmps.size = true) (hd : edgesDown ops.toList 0 = true) (h0 : I (fun _ => false) (valsAt ops.toList a) w.drew)
    (hstep : StepsAll P ops Q a I ops.toList 0)
    (hfin : ∀ (L : Nat → Bool) (x : Nat → Value) (w : World), I L x w → (∀ i, i < ops.size → L i = true) → Q .normal (actOf ops.toList x 0 a) w) : (Code.region id ops true).wp P Q a w := by
  refine wp_region_any hm ?_
  have hself := actOf_self ops.toList (valsAt ops.toList a) 0 a hn (fun i => by rw [Nat.zero_add])
  have hL : (fun i => (Array.replicate ops.size false).getD i false) = fun _ => false := by
    funext i
    simp [Array.getD]
  have := wpAny_inv (P := P) (ops := ops) (Q := Q) a _ hn hd I (fun i o ho => by have := stepsAll_at hstep i o (by simpa using ho); rwa [Nat.zero_add] at this) hfin ops.size (Array.replicate ops.size false) (valsAt ops.toList a) w.drew (by simp) (by rw [hL]; exact h0) ⟨List.range ops.size, by simp, fun i hi _ => by simpa using hi⟩
  rw [hself] at this
  exact this

/-- The values of the operations that have come up. -/
def Holds (L : Nat → Bool) (x : Nat → Value) : List Value → Nat → Prop
  | [], _ => True
  | v :: r, i => (L i = true → x i = v) ∧ Holds L x r (i + 1)
theorem Holds.none (x : Nat → Value) : ∀ (vs : List Value) (k : Nat), Holds (fun _ => false) x vs k
  | [], _ => trivial
  | _ :: r, k => ⟨fun h => (by cases h), Holds.none x r (k + 1)⟩
theorem Holds.step {L : Nat → Bool} {x : Nat → Value} {i : Nat} {v : Value} : ∀ {vs : List Value} {k : Nat}, Holds L x vs k → (∀ j u, vs[j]? = some u → k + j = i → u = v) → Holds (setL L i) (updV x i v) vs k
  | [], _, _, _ => trivial
  | u :: r, k, h, hv => by
    refine ⟨fun hl => ?_, h.2.step fun j u' hj hk => hv (j + 1) u' hj (by omega)⟩
    by_cases e : k = i
    · subst e
      rw [hv 0 u rfl rfl]
      exact if_pos rfl
    · have h1 : L k = true := by rw [← hl]; exact (if_neg e).symm
      rw [← h.1 h1]
      exact if_neg e
/-- One goal for each operation, where the values are determined. -/
def StepsD (P : Program) (ops : Array Oper) (Q : Exit → Act → World → Prop) (a : Act) (vals : List Value) (S : (Nat → Bool) → World → Prop) : List Oper → Nat → Prop
  | [], _ => True
  | o :: r, i => (∀ (L : Nat → Bool) (x : Nat → Value) (w : World), Holds L x vals 0 → S L w → L i = false → AllL L (predsOf o) →
      ∀ K : Act → World → Prop, Shut (∀ w', S (setL L i) w' → K ((actOf ops.toList x 0 a).put o.dst (vals.getD i undef)) w') →
        if Region.wanted o (yielded ops (actOf ops.toList x 0 a).tmps) = true then o.wp P (actOf ops.toList x 0 a) w K Q else K ((actOf ops.toList x 0 a).put o.dst undef) w) ∧ StepsD P ops Q a vals S r (i + 1)
theorem stepsAll_of_det {a : Act} {vals : List Value} {S : (Nat → Bool) → World → Prop} : ∀ (l : List Oper) (k : Nat), StepsD P ops Q a vals S l k → StepsAll P ops Q a (fun L x w => Holds L x vals 0 ∧ S L w) l k
  | [], _, _ => trivial
  | o :: r, k, h => ⟨fun L x w ⟨hv, hS⟩ hl hp K hK => h.1 L x w hv hS hl hp K (fun w' hS' => hK _ w' ⟨hv.step fun j u hj e => by
      rw [Nat.zero_add] at e
      subst e
      rw [List.getD_eq_getElem?_getD, hj]; rfl, hS'⟩), stepsAll_of_det r (k + 1) h.2⟩
theorem Holds.at {L : Nat → Bool} {x : Nat → Value} : ∀ {vs : List Value} {k : Nat}, Holds L x vs k → ∀ (i : Nat) (v : Value), vs[i]? = some v → L (k + i) = true → x (k + i) = v
  | [], _, _, _, _, h, _ => by simp at h
  | u :: r, k, h, 0, v, hi, hl => by obtain rfl : u = v := Option.some.inj hi; exact h.1 hl
  | u :: r, k, h, i + 1, v, hi, hl => by
    have := h.2.at i v hi
    rw [show k + 1 + i = k + (i + 1) by omega] at this
    exact this hl
theorem actOf_congr {x y : Nat → Value} {a : Act} : ∀ (l : List Oper) (k : Nat), (∀ i, i < l.length → x (k + i) = y (k + i)) → actOf l x k a = actOf l y k a
  | [], _, _ => rfl
  | o :: r, k, h => by
    simp only [actOf]
    have h0 : ∀ i, i < r.length → x (k + 1 + i) = y (k + 1 + i) := fun i hi => by
      have h3 := h (i + 1) (Nat.succ_lt_succ hi)
      rw [show k + (i + 1) = k + 1 + i by omega] at h3
      exact h3
    have h1 := actOf_congr (a := a) r (k + 1) h0
    have h2 : x k = y k := h 0 (by simp)
    rw [h1, h2]
/-- The region, where the values are determined. -/
theorem region_det {id : Nat} {a : Act} {w : World} (vals : List Value) (S : (Nat → Bool) → World → Prop) (hm : P.follows .mixedOrders = true)
    (hn : dstsOk ops.toList a.tmps.size = true) (hd : edgesDown ops.toList 0 = true) (hl : vals.length = ops.size) (h0 : S (fun _ => false) w.drew)
    (hstep : StepsD P ops Q a vals S ops.toList 0)
    (hfin : ∀ (L : Nat → Bool) (w : World), S L w → (∀ i, i < ops.size → L i = true) → Q .normal (actOf ops.toList (fun i => vals.getD i undef) 0 a) w) : (Code.region id ops true).wp P Q a w := by
  refine region_inv (fun L x w => Holds L x vals 0 ∧ S L w) hm hn hd ⟨Holds.none _ _ _, h0⟩ (stepsAll_of_det _ _ hstep) fun L x w ⟨hv, hS⟩ hL => ?_
  have he : actOf ops.toList x 0 a = actOf ops.toList (fun i => vals.getD i undef) 0 a := by
    refine actOf_congr _ _ fun i hi => ?_
    have hi' : i < ops.size := by simpa using hi
    have hiv : vals[i]? = some (vals.getD i undef) := by rw [List.getD_eq_getElem?_getD, List.getElem?_eq_getElem (by omega)]; rfl
    have := hv.at i _ hiv (by rw [Nat.zero_add]; exact hL i hi')
    rw [Nat.zero_add] at this ⊢
    exact this
  rw [he]
  exact hfin L w hS hL

def pickV : Bool → Option Value → Value → Value
  | true, some v, _ => v
  | _, _, u => u
/-- The frame: what is determined and has surely come up stands in its slot. -/
def actMix : List Oper → List Bool → List (Option Value) → (Nat → Value) → Nat → Act → Act
  | [], _, _, _, _, a => a
  | o :: r, bs, vs, x, i, a => (actMix r bs.tail vs.tail x (i + 1) a).put o.dst (pickV (bs.headD false) (vs.headD none) (x i))
theorem actMix_eq {x : Nat → Value} {a : Act} : ∀ (l : List Oper) (bs : List Bool) (vs : List (Option Value)) (k : Nat), (∀ i v, bs[i]? = some true → vs[i]? = some (some v) → x (k + i) = v) → actMix l bs vs x k a = actOf l x k a
  | [], _, _, _, _ => rfl
  | o :: r, bs, vs, k, h => by
    simp only [actMix, actOf]
    have h1 := actMix_eq (x := x) (a := a) r bs.tail vs.tail (k + 1) (fun i v hb hv => by
      have h3 := h (i + 1) v (by cases bs <;> simp at hb ⊢; exact hb) (by cases vs <;> simp at hv ⊢; exact hv)
      rw [show k + (i + 1) = k + 1 + i by omega] at h3
      exact h3)
    have h2 : pickV (bs.headD false) (vs.headD none) (x k) = x k := by
      cases bs with
      | nil => rfl
      | cons b bs =>
        cases vs with
        | nil => cases b <;> rfl
        | cons v vs =>
          cases b with
          | false => rfl
          | true =>
            cases v with
            | none => rfl
            | some v => exact (h 0 v rfl rfl).symm
    rw [h1, h2]
/-- The masks: who has surely come up ahead of each operation. -/
def masksOf (ops : List Oper) (l : List Oper) : List (List Bool) := l.map fun o => (List.range ops.length).map fun j => (predsOf o).contains j
/-- One goal for each operation. -/
def StepsM (P : Program) (ops : Array Oper) (Q : Exit → Act → World → Prop) (a : Act) (vals : List (Option Value)) (S : (Nat → Bool) → (Nat → Value) → World → Prop) : List Oper → List (List Bool) → List (Option Value) → Nat → Prop
  | [], _, _, _ => True
  | o :: r, m :: ms, some v :: vs, i => (∀ (L : Nat → Bool) (x : Nat → Value) (w : World), S L x w → L i = false → AllL L (predsOf o) →
      ∀ K : Act → World → Prop, Shut (∀ w', S (setL L i) (updV x i v) w' → K ((actMix ops.toList m vals x 0 a).put o.dst v) w') →
        if Region.wanted o (yielded ops (actMix ops.toList m vals x 0 a).tmps) = true then o.wp P (actMix ops.toList m vals x 0 a) w K Q else K ((actMix ops.toList m vals x 0 a).put o.dst undef) w) ∧ StepsM P ops Q a vals S r ms vs (i + 1)
  | o :: r, m :: ms, none :: vs, i => (∀ (L : Nat → Bool) (x : Nat → Value) (w : World), S L x w → L i = false → AllL L (predsOf o) →
      ∀ K : Act → World → Prop, Shut (∀ v w', S (setL L i) (updV x i v) w' → K ((actMix ops.toList m vals x 0 a).put o.dst v) w') →
        if Region.wanted o (yielded ops (actMix ops.toList m vals x 0 a).tmps) = true then o.wp P (actMix ops.toList m vals x 0 a) w K Q else K ((actMix ops.toList m vals x 0 a).put o.dst undef) w) ∧ StepsM P ops Q a vals S r ms vs (i + 1)
  | _, _, _, _ => False
def HoldsM (L : Nat → Bool) (x : Nat → Value) (vals : List (Option Value)) : Prop := ∀ i v, vals[i]? = some (some v) → L i = true → x i = v
theorem HoldsM.step {L : Nat → Bool} {x : Nat → Value} {vals : List (Option Value)} {i : Nat} {v : Value} (h : HoldsM L x vals) (hv : ∀ u, vals[i]? = some (some u) → u = v) : HoldsM (setL L i) (updV x i v) vals := fun j u hj hl => by
  by_cases e : j = i
  · subst e
    rw [hv u hj]
    exact if_pos rfl
  · have h1 : L j = true := by rw [← hl]; exact (if_neg e).symm
    rw [← h j u hj h1]
    exact if_neg e
theorem mask_eq {x : Nat → Value} {a : Act} {vals : List (Option Value)} {L : Nat → Bool} {o : Oper} {m : List Bool} {l : List Oper} (hh : HoldsM L x vals) (hp : ∀ j ∈ predsOf o, L j = true) (hm : m = (List.range l.length).map fun j => (predsOf o).contains j) : actMix l m vals x 0 a = actOf l x 0 a := by
  refine actMix_eq _ _ _ _ fun i v hb hv => ?_
  rw [Nat.zero_add]
  refine hh i v hv (hp i ?_)
  rw [hm, List.getElem?_map, Option.map_eq_some_iff] at hb
  obtain ⟨k, hk, hc⟩ := hb
  obtain ⟨h1, h2⟩ := List.getElem?_eq_some_iff.1 hk
  rw [List.getElem_range] at h2
  subst h2
  simpa using hc
theorem allL_mem {L : Nat → Bool} : ∀ {l : List Nat}, AllL L l → ∀ j ∈ l, L j = true
  | [], _, j, hj => by cases hj
  | k :: r, h, j, hj => by
    rcases List.mem_cons.1 hj with rfl | hj
    · exact h.1
    · exact allL_mem h.2 j hj
theorem stepsAll_of_mix {a : Act} {vals : List (Option Value)} {S : (Nat → Bool) → (Nat → Value) → World → Prop} : ∀ (l : List Oper) (ms : List (List Bool)) (vs : List (Option Value)) (k : Nat), ms = masksOf ops.toList l → (∀ i, vs[i]? = vals[k + i]?) →
    StepsM P ops Q a vals S l ms vs k → StepsAll P ops Q a (fun L x w => HoldsM L x vals ∧ S L x w) l k
  | [], _, _, _, _, _, _ => trivial
  | o :: r, m :: ms, some v :: vs, k, hm, hv, h => by
    simp only [masksOf, List.map_cons, List.cons.injEq] at hm
    refine ⟨fun L x w ⟨hh, hS⟩ hl hp K hK => ?_, stepsAll_of_mix r ms vs (k + 1) hm.2 (fun i => by have := hv (i + 1); rw [show k + (i + 1) = k + 1 + i by omega] at this; exact this) h.2⟩
    have he := mask_eq (a := a) hh (allL_mem hp) hm.1
    have := h.1 L x w hS hl hp K
    rw [he] at this
    refine this fun w' hS' => hK _ w' ⟨hh.step fun u hu => ?_, hS'⟩
    have h0 := hv 0
    rw [Nat.add_zero, hu] at h0
    exact (Option.some.inj (Option.some.inj h0)).symm
  | o :: r, m :: ms, none :: vs, k, hm, hv, h => by
    simp only [masksOf, List.map_cons, List.cons.injEq] at hm
    refine ⟨fun L x w ⟨hh, hS⟩ hl hp K hK => ?_, stepsAll_of_mix r ms vs (k + 1) hm.2 (fun i => by have := hv (i + 1); rw [show k + (i + 1) = k + 1 + i by omega] at this; exact this) h.2⟩
    have he := mask_eq (a := a) hh (allL_mem hp) hm.1
    have := h.1 L x w hS hl hp K
    rw [he] at this
    refine this fun v w' hS' => hK _ w' ⟨hh.step fun u hu => ?_, hS'⟩
    have h0 := hv 0
    rw [Nat.add_zero, hu] at h0
    cases h0
  | _ :: _, [], _, _, _, _, h => h.elim
  | _ :: _, _ :: _, [], _, _, _, h => h.elim
/-- The region: what is determined stands in the list, of the rest S speaks. -/
theorem region_mix {id : Nat} {a : Act} {w : World} (vals : List (Option Value)) (masks : List (List Bool)) (S : (Nat → Bool) → (Nat → Value) → World → Prop) (hm : P.follows .mixedOrders = true)
    (hn : dstsOk ops.toList a.tmps.size = true) (hd : edgesDown ops.toList 0 = true) (hk : masks = masksOf ops.toList ops.toList) (h0 : ∀ x, S (fun _ => false) x w.drew)
    (hstep : StepsM P ops Q a vals S ops.toList masks vals 0)
    (hfin : ∀ (L : Nat → Bool) (x : Nat → Value) (w : World), S L x w → (∀ i, i < ops.size → L i = true) → Q .normal (actMix ops.toList (List.replicate ops.size true) vals x 0 a) w) : (Code.region id ops true).wp P Q a w := by
  refine region_inv (fun L x w => HoldsM L x vals ∧ S L x w) hm hn hd ⟨fun i v _ hl => (by cases hl), h0 _⟩ (stepsAll_of_mix _ _ _ _ hk (fun i => by rw [Nat.zero_add]) hstep) fun L x w ⟨hh, hS⟩ hL => ?_
  have he : actMix ops.toList (List.replicate ops.size true) vals x 0 a = actOf ops.toList x 0 a := by
    refine actMix_eq _ _ _ _ fun i v hb hv => ?_
    rw [Nat.zero_add]
    refine hh i v hv (hL i ?_)
    obtain ⟨h1, _⟩ := List.getElem?_eq_some_iff.1 hb
    simpa using h1
  rw [← he]
  exact hfin L x w hS hL
end
end Go.Proofs.YtbbphklhnngjmaaGreatDoor

/- A region that draws its order, by an invariant over its first operations; the others, each of which waits for all before it, follow in their order. -/
namespace Go.Proofs.YtbbphklhnngjmaaGreatDoor
open Go.RowKit

section
variable {P : Program} {ops : Array Oper} {Q : Exit → Act → World → Prop}

theorem wpAny_act (hd : edgesDown ops.toList 0 = true) (I : (Nat → Bool) → Act → World → Prop)
    (hstep : ∀ (i : Nat) (o : Oper), ops[i]? = some o → ∀ (L : Nat → Bool) (a : Act) (w : World), I L a w → L i = false → AllL L (predsOf o) → wpOp P ops Q i (fun a' w' => I (setL L i) a' w') a w)
    (hfin : ∀ (L : Nat → Bool) (a : Act) (w : World), I L a w → (∀ i, i < ops.size → L i = true) → Q .normal a w) :
    ∀ (fuel : Nat) (listed : Array Bool) (a : Act) (w : World), listed.size = ops.size → I (fun i => listed.getD i false) a w →
      (∃ l : List Nat, l.length ≤ fuel ∧ ∀ i, i < ops.size → listed.getD i false = false → i ∈ l) → wpAny P .any ops Q fuel listed a w
  | 0, listed, a, w, hs, hI, ⟨l, hl, hc⟩ => by
    obtain rfl : l = [] := List.eq_nil_of_length_eq_zero (by omega)
    have hall : ∀ i, i < ops.size → listed.getD i false = true := fun i hi => by
      cases h : listed.getD i false with
      | true => rfl
      | false => have := hc i hi h; cases this
    refine ⟨?_, hfin _ a w hI hall⟩
    cases hr : Region.ready .any ops listed with
    | nil => rfl
    | cons j r =>
      have hj : j ∈ Region.ready .any ops listed := by rw [hr]; exact List.mem_cons_self ..
      obtain ⟨h1, o, ho, _⟩ := mem_ready.1 hj
      have hlt : j < ops.size := by
        rcases Nat.lt_or_ge j ops.size with h | h
        · exact h
        · rw [Array.getElem?_eq_none h] at ho; cases ho
      have h2 := hall j hlt
      simp [Array.getD, hs, hlt] at h1 h2
      rw [h2] at h1
      cases h1
  | fuel + 1, listed, a, w, hs, hI, ⟨l, hl, hc⟩ => by
    refine ⟨fun h => hfin _ a w hI (ready_nil hd hs h), fun i hi => ?_⟩
    obtain ⟨h1, o, ho, _⟩ := mem_ready.1 hi
    have hlt : i < ops.size := by
      rcases Nat.lt_or_ge i ops.size with h | h
      · exact h
      · rw [Array.getElem?_eq_none h] at ho; cases ho
    have h1' : listed.getD i false = false := by simp [Array.getD, hs, hlt] at h1 ⊢; exact h1
    have hset : (fun j => (listed.setIfInBounds i true).getD j false) = setL (fun j => listed.getD j false) i := by
      funext j
      unfold setL
      by_cases e : j = i
      · subst e; rw [if_pos rfl]; simp [Array.getD, hs, hlt]
      · rw [if_neg e]
        simp only [Array.getD_eq_getD_getElem?, Array.getElem?_setIfInBounds_ne (Ne.symm e)]
    refine wpOp_mono (fun a' w' hI' => ?_) (hstep i o ho _ a w hI h1' (listed_preds hi ho))
    refine wpAny_act hd I hstep hfin fuel _ a' w' (by simpa using hs) (by rw [hset]; exact hI') ⟨l.erase i, ?_, fun j hj hjl => ?_⟩
    · rw [List.length_erase_of_mem (hc i hlt h1')]; omega
    · have hji : j ≠ i := by
        rintro rfl
        simp [Array.getD, hs, hlt] at hjl
      have : listed.getD j false = false := by
        rw [Array.getD_eq_getD_getElem?, Array.getElem?_setIfInBounds_ne (Ne.symm hji), ← Array.getD_eq_getD_getElem?] at hjl
        exact hjl
      exact (List.mem_erase_of_ne hji).2 (hc j hj this)

/-- The first behind so many waits for all before it, each later one for the one before it. -/
def tailOk : List Oper → Nat → Nat → Bool
  | [], _, _ => true
  | o :: r, i, n => (decide (i < n) || (if i = n then (List.range n).all (fun j => (predsOf o).contains j) else (predsOf o).contains (i - 1))) && tailOk r (i + 1) n
theorem tailOk_n {n : Nat} : ∀ {l : List Oper} {k i : Nat} {o : Oper}, tailOk l k n = true → l[i]? = some o → k + i = n → ∀ j, j < n → j ∈ predsOf o
  | [], _, i, _, _, h, _, _, _ => by simp at h
  | p :: r, k, i, o, ht, h, hn, j, hj => by
    simp only [tailOk, Bool.and_eq_true, Bool.or_eq_true, decide_eq_true_eq] at ht
    match i, h with
    | 0, h =>
      obtain rfl : p = o := Option.some.inj h
      rcases ht.1 with h1 | h1
      · omega
      · rw [if_pos (by omega)] at h1
        simp only [List.all_eq_true, List.mem_range] at h1
        simpa using h1 j hj
    | i + 1, h => exact tailOk_n ht.2 (show r[i]? = some o from h) (by omega) j (by omega)
theorem tailOk_s {n : Nat} : ∀ {l : List Oper} {k i : Nat} {o : Oper}, tailOk l k n = true → l[i]? = some o → n < k + i → k + i - 1 ∈ predsOf o
  | [], _, i, _, _, h, _ => by simp at h
  | p :: r, k, i, o, ht, h, hn => by
    simp only [tailOk, Bool.and_eq_true, Bool.or_eq_true, decide_eq_true_eq] at ht
    match i, h with
    | 0, h =>
      obtain rfl : p = o := Option.some.inj h
      rcases ht.1 with h1 | h1
      · omega
      · rw [if_neg (by omega)] at h1
        simpa using h1
    | i + 1, h =>
      have := tailOk_s ht.2 (show r[i]? = some o from h) (by omega)
      rwa [show k + (i + 1) - 1 = k + 1 + i - 1 by omega]
theorem wpList_op {k : Nat} {o : Oper} (ho : ops[k]? = some o) {rest : List Oper} {a : Act} {w : World} (h : wpList P ops Q (o :: rest) a w) : wpOp P ops Q k (wpList P ops Q rest) a w := by
  unfold wpOp
  simp only [ho]
  exact h
/-- One goal for each operation. -/
def StepsT (P : Program) (ops : Array Oper) (Q : Exit → Act → World → Prop) (a : Act) (hd : List Oper) (vals : List (Option Value)) (S : (Nat → Bool) → (Nat → Value) → World → Prop) : List Oper → List (List Bool) → List (Option Value) → Nat → Prop
  | [], _, _, _ => True
  | o :: r, m :: ms, some v :: vs, i => (∀ (L : Nat → Bool) (x : Nat → Value) (w : World), S L x w → L i = false → AllL L (predsOf o) →
      ∀ K : Act → World → Prop, Shut (∀ w', S (setL L i) (updV x i v) w' → K ((actMix hd m vals x 0 a).put o.dst v) w') →
        if Region.wanted o (yielded ops (actMix hd m vals x 0 a).tmps) = true then o.wp P (actMix hd m vals x 0 a) w K Q else K ((actMix hd m vals x 0 a).put o.dst undef) w) ∧ StepsT P ops Q a hd vals S r ms vs (i + 1)
  | o :: r, m :: ms, none :: vs, i => (∀ (L : Nat → Bool) (x : Nat → Value) (w : World), S L x w → L i = false → AllL L (predsOf o) →
      ∀ K : Act → World → Prop, Shut (∀ v w', S (setL L i) (updV x i v) w' → K ((actMix hd m vals x 0 a).put o.dst v) w') →
        if Region.wanted o (yielded ops (actMix hd m vals x 0 a).tmps) = true then o.wp P (actMix hd m vals x 0 a) w K Q else K ((actMix hd m vals x 0 a).put o.dst undef) w) ∧ StepsT P ops Q a hd vals S r ms vs (i + 1)
  | _, _, _, _ => False
def masksT (n : Nat) (l : List Oper) : List (List Bool) := l.map fun o => (List.range n).map fun j => (predsOf o).contains j
theorem stepsT_at {a : Act} {hd : List Oper} {vals : List (Option Value)} {S : (Nat → Bool) → (Nat → Value) → World → Prop} : ∀ (l : List Oper) (ms : List (List Bool)) (vs : List (Option Value)) (k : Nat), ms = masksT hd.length l → (∀ i, vs[i]? = vals[k + i]?) →
    StepsT P ops Q a hd vals S l ms vs k → ∀ (i : Nat) (o : Oper), l[i]? = some o → ∀ (L : Nat → Bool) (x : Nat → Value) (w : World), HoldsM L x vals ∧ S L x w → L (k + i) = false → AllL L (predsOf o) →
      ∀ K : Act → World → Prop, Shut (∀ v w', HoldsM (setL L (k + i)) (updV x (k + i) v) vals ∧ S (setL L (k + i)) (updV x (k + i) v) w' → K ((actOf hd x 0 a).put o.dst v) w') →
        if Region.wanted o (yielded ops (actOf hd x 0 a).tmps) = true then o.wp P (actOf hd x 0 a) w K Q else K ((actOf hd x 0 a).put o.dst undef) w
  | [], _, _, _, _, _, _, i, o, h => by simp at h
  | o :: r, m :: ms, some v :: vs, k, hm, hv, h, 0, p, hp0 => by
    obtain rfl : o = p := Option.some.inj hp0
    simp only [masksT, List.map_cons, List.cons.injEq] at hm
    intro L x w ⟨hh, hS⟩ hl hp K hK
    rw [Nat.add_zero] at hl hK
    have he := mask_eq (a := a) hh (allL_mem hp) hm.1
    have := h.1 L x w hS hl hp K
    rw [he] at this
    refine this fun w' hS' => hK _ w' ⟨hh.step fun u hu => ?_, hS'⟩
    have h0 := hv 0
    rw [Nat.add_zero, hu] at h0
    exact (Option.some.inj (Option.some.inj h0)).symm
  | o :: r, m :: ms, none :: vs, k, hm, hv, h, 0, p, hp0 => by
    obtain rfl : o = p := Option.some.inj hp0
    simp only [masksT, List.map_cons, List.cons.injEq] at hm
    intro L x w ⟨hh, hS⟩ hl hp K hK
    rw [Nat.add_zero] at hl hK
    have he := mask_eq (a := a) hh (allL_mem hp) hm.1
    have := h.1 L x w hS hl hp K
    rw [he] at this
    refine this fun v w' hS' => hK _ w' ⟨hh.step fun u hu => ?_, hS'⟩
    have h0 := hv 0
    rw [Nat.add_zero, hu] at h0
    cases h0
  | o :: r, m :: ms, some v :: vs, k, hm, hv, h, i + 1, p, hp0 => by
    simp only [masksT, List.map_cons, List.cons.injEq] at hm
    have := stepsT_at r ms vs (k + 1) hm.2 (fun i => by have := hv (i + 1); rw [show k + (i + 1) = k + 1 + i by omega] at this; exact this) h.2 i p hp0
    rw [show k + 1 + i = k + (i + 1) by omega] at this
    exact this
  | o :: r, m :: ms, none :: vs, k, hm, hv, h, i + 1, p, hp0 => by
    simp only [masksT, List.map_cons, List.cons.injEq] at hm
    have := stepsT_at r ms vs (k + 1) hm.2 (fun i => by have := hv (i + 1); rw [show k + (i + 1) = k + 1 + i by omega] at this; exact this) h.2 i p hp0
    rw [show k + 1 + i = k + (i + 1) by omega] at this
    exact this
  | _ :: _, [], _, _, _, _, h, _, _, _ => h.elim
  | _ :: _, _ :: _, [], _, _, _, h, _, _, _ => h.elim
def HeadS (P : Program) (ops : Array Oper) (Q : Exit → Act → World → Prop) (n : Nat) (a0 : Act) (vals : List (Option Value)) (S : (Nat → Bool) → (Nat → Value) → World → Prop) (L : Nat → Bool) (a : Act) (w : World) : Prop :=
  ((∀ i, n ≤ i → L i = false) ∧ ∃ x, a = actOf (ops.toList.take n) x 0 a0 ∧ HoldsM L x vals ∧ S L x w) ∨
  ∃ k, n ≤ k ∧ (∀ i, i < k → i < ops.size → L i = true) ∧ (∀ i, k ≤ i → L i = false) ∧ wpList P ops Q (ops.toList.drop k) a w

/-- The region. -/
theorem region_mixt {id : Nat} {a : Act} {w : World} (n : Nat) (vals : List (Option Value)) (masks : List (List Bool)) (S : (Nat → Bool) → (Nat → Value) → World → Prop) (hm : P.follows .mixedOrders = true)
    (hn : dstsOk (ops.toList.take n) a.tmps.size = true) (hd : edgesDown ops.toList 0 = true) (ht : tailOk ops.toList 0 n = true) (hk : masks = masksT n (ops.toList.take n)) (hnn : n ≤ ops.size) (h0 : ∀ x, S (fun _ => false) x w.drew)
    (hstep : StepsT P ops Q a (ops.toList.take n) vals S (ops.toList.take n) masks vals 0)
    (hfin : ∀ (L : Nat → Bool) (x : Nat → Value) (w : World), S L x w → (∀ i, i < n → L i = true) → wpList P ops Q (ops.toList.drop n) (actMix (ops.toList.take n) (List.replicate n true) vals x 0 a) w) : (Code.region id ops true).wp P Q a w := by
  refine wp_region_any hm ?_
  have hself := actOf_self (ops.toList.take n) (valsAt (ops.toList.take n) a) 0 a hn (fun i => by rw [Nat.zero_add])
  have hlen : (ops.toList.take n).length = n := by simp; omega
  have hL : (fun i => (Array.replicate ops.size false).getD i false) = fun _ => false := by
    funext i
    simp [Array.getD]
  refine wpAny_act (P := P) (ops := ops) (Q := Q) hd (HeadS P ops Q n a vals S) ?_ ?_ ops.size (Array.replicate ops.size false) a w.drew (by simp) ?_ ⟨List.range ops.size, by simp, fun i hi _ => by simpa using hi⟩
  · intro i o ho L a1 w1 hI hl hp
    have hol : ops.toList[i]? = some o := by simpa using ho
    have hlt : i < ops.size := by
      rcases Nat.lt_or_ge i ops.size with h | h
      · exact h
      · rw [Array.getElem?_eq_none h] at ho; cases ho
    have tail : ∀ k, n ≤ k → (∀ j, j < k → j < ops.size → L j = true) → (∀ j, k ≤ j → L j = false) → wpList P ops Q (ops.toList.drop k) a1 w1 → wpOp P ops Q i (fun a' w' => HeadS P ops Q n a vals S (setL L i) a' w') a1 w1 := by
      intro k hk1 hk2 hk3 hw
      have hik : k ≤ i := by
        rcases Nat.lt_or_ge i k with h | h
        · have := hk2 i h hlt
          rw [hl] at this
          cases this
        · exact h
      have hki : i = k := by
        rcases Nat.lt_or_ge k i with h | h
        · have h1 := allL_mem hp _ (tailOk_s ht hol (by omega))
          rw [hk3 _ (by omega)] at h1
          cases h1
        · omega
      subst hki
      have hdr : ops.toList.drop i = o :: ops.toList.drop (i + 1) := by
        rw [List.drop_eq_getElem_cons (by simpa using hlt)]
        congr 1
        have := List.getElem?_eq_some_iff.1 hol
        exact this.2
      rw [hdr] at hw
      refine wpOp_mono (fun a' w' h => ?_) (wpList_op ho hw)
      refine .inr ⟨i + 1, by omega, fun j hj hjs => ?_, fun j hj => ?_, h⟩
      · unfold setL
        by_cases e : j = i
        · rw [if_pos e]
        · rw [if_neg e]; exact hk2 j (by omega) hjs
      · unfold setL
        rw [if_neg (by omega)]
        exact hk3 j (by omega)
    rcases hI with ⟨hu, x, rfl, hh, hS⟩ | ⟨k, hk1, hk2, hk3, hw⟩
    · rcases Nat.lt_or_ge i n with hin | hin
      · have hti : (ops.toList.take n)[i]? = some o := by rw [List.getElem?_take, if_pos hin]; exact hol
        have hst := stepsT_at (ops.toList.take n) masks vals 0 (by rw [hlen]; exact hk) (fun i => by rw [Nat.zero_add]) hstep i o hti L x w1 ⟨hh, hS⟩ (by rw [Nat.zero_add]; exact hl) hp
        rw [Nat.zero_add] at hst
        refine wpOp_step ho (fun K hK => hst K (fun v w' ⟨hh', hS'⟩ => hK _ _ (.inl ⟨fun j hj => ?_, updV x i v, ?_, hh', hS'⟩)))
        · unfold setL
          rw [if_neg (by omega)]
          exact hu j hj
        · rw [actOf_put (ops.toList.take n) _ x 0 a hn i o hti v, Nat.zero_add]
      · have hin' : i = n := by
          rcases Nat.lt_or_ge n i with h | h
          · have h1 := allL_mem hp _ (tailOk_s ht hol (by omega))
            rw [hu _ (by omega)] at h1
            cases h1
          · omega
        have hall : ∀ j, j < i → L j = true := fun j hj => allL_mem hp j (tailOk_n ht hol (by omega) j (by omega))
        subst hin'
        have he : actMix (ops.toList.take i) (List.replicate i true) vals x 0 a = actOf (ops.toList.take i) x 0 a := by
          refine actMix_eq _ _ _ _ fun j v hb hv => ?_
          rw [Nat.zero_add]
          obtain ⟨h1, _⟩ := List.getElem?_eq_some_iff.1 hb
          exact hh j v hv (hall j (by simpa using h1))
        have hw := hfin L x w1 hS hall
        rw [he] at hw
        exact tail i (Nat.le_refl _) (fun j hj _ => hall j hj) hu hw
    · exact tail k hk1 hk2 hk3 hw
  · intro L a1 w1 hI hall
    rcases hI with ⟨hu, x, rfl, hh, hS⟩ | ⟨k, hk1, hk2, hk3, hw⟩
    · have hns : n = ops.size := by
        rcases Nat.lt_or_ge n ops.size with h | h
        · have h1 := hall n h
          rw [hu n (Nat.le_refl _)] at h1
          cases h1
        · omega
      have hw := hfin L x w1 hS (fun j hj => hall j (by omega))
      have he : actMix (ops.toList.take n) (List.replicate n true) vals x 0 a = actOf (ops.toList.take n) x 0 a := by
        refine actMix_eq _ _ _ _ fun j v hb hv => ?_
        rw [Nat.zero_add]
        obtain ⟨h1, _⟩ := List.getElem?_eq_some_iff.1 hb
        exact hh j v hv (hall j (by have : j < n := by simpa using h1
                                    omega))
      rw [he, List.drop_eq_nil_of_le (by simp; omega)] at hw
      exact hw
    · have hns : ops.size ≤ k := by
        rcases Nat.lt_or_ge k ops.size with h | h
        · have h1 := hall k h
          rw [hk3 k (Nat.le_refl _)] at h1
          cases h1
        · exact h
      rw [List.drop_eq_nil_of_le (by simpa using hns)] at hw
      exact hw
  · rw [hL]
    exact .inl ⟨fun _ _ => rfl, valsAt (ops.toList.take n) a, hself.symm, fun i v _ hl => (by cases hl), h0 _⟩
end
end Go.Proofs.YtbbphklhnngjmaaGreatDoor

/- start: Status.Line; the reference's StatusLine. -/
namespace Go.Proofs.YtbbphklhnngjmaaGreatDoor
open Go.RowKit

theorem prtI_short (n : Int) : (prtI 10 n).length ≤ 65 := by
  unfold prtI prt
  have := prtF_len 10 64 n.toNat
  omega
theorem itoa_i (n : Int) (h0 : 0 ≤ n) (hn : n < 9223372036854775808) (w : World) (hw : Pow w) :
    Calls Tryz.prog 77 #[.int .i64 n] w fun e w' => e = .returned (.string (bs (prtI 10 n))) ∧ Below w.heap.size w w' := by
  obtain ⟨U, rfl⟩ := Int.eq_ofNat_of_zero_le h0
  exact itoa66 U (by omega) w hw
set_option maxRecDepth 100000 in
set_option maxHeartbeats 4000000 in
theorem sline15 (c : Int) (r : List UInt8) (hr : r.length ≤ 4000000000) (w : World) (hw : Pow w) :
    Calls Tryz.prog 37 #[.agg #[.int .i64 c, .string (bs r)]] w fun e w' => e = .returned (.string (bs (stLine (c, r)))) ∧ Below w.heap.size w w' := by
  have hK0 : codeT c < 9223372036854775808 := by unfold codeT; omega
  have A2 := fun V => add_str pfxL (prtI 10 (codeT c)) (by have := prtI_short (codeT c); simp [pfxL]; omega) V
  have A3 := fun V => add_str (pfxL ++ prtI 10 (codeT c)) [32] (by have := prtI_short (codeT c); simp [pfxL]; omega) V
  have A4 := fun V => add_str (pfxL ++ prtI 10 (codeT c) ++ [32]) r (by have := prtI_short (codeT c); simp [pfxL]; omega) V
  have A5 := fun V => add_str (pfxL ++ prtI 10 (codeT c) ++ [32] ++ r) [13, 10] (by have := prtI_short (codeT c); simp [pfxL]; omega) V
  have e32 : bs [32] = ⟨#[32]⟩ := rfl
  have ep : bs pfxL = ⟨#[72, 84, 84, 80, 47, 49, 46, 49, 32]⟩ := rfl
  have e13 : bs [13, 10] = ⟨#[13, 10]⟩ := rfl
  rw [ep] at A2
  rw [e32] at A3
  rw [e13] at A5
  have hl : stLine (c, r) = pfxL ++ prtI 10 (codeT c) ++ [32] ++ r ++ [13, 10] := rfl
  rw [hl]
  obtain ⟨K, hKc⟩ : ∃ K, codeT c = K := ⟨_, rfl⟩
  rw [hKc] at A2 A3 A4 A5 hK0 ⊢
  have HD : Hid (∀ W, Pow W → Calls Tryz.prog 73 #[.int .i64 K] W fun e w' => e = .returned (.string (bs (prtI 10 K))) ∧ Below W.heap.size W w') := fun W hW => digits28 K hK0 W hW
  have hmm : min (max c 200) 599 = K := hKc
  have hP := Lib.hid (hw.below (below_alloc w (.cells #[.int .i64 c, .string (bs r)] 29)))
  have L0 := Lib.hid (below_alloc w (.cells #[.int .i64 c, .string (bs r)] 29))
  have p0 : (w.alloc (.cells #[.int .i64 c, .string (bs r)] 29)).cell? ⟨w.heap.size, 0, none⟩ = some (.int .i64 c) := by simp
  have p1 : (w.alloc (.cells #[.int .i64 c, .string (bs r)] 29)).cell? ⟨w.heap.size, 1, none⟩ = some (.string (bs r)) := by simp
  have pz : w.heap.size < (w.alloc (.cells #[.int .i64 c, .string (bs r)] 29)).heap.size := by simp
  generalize hx5 : bs (pfxL ++ prtI 10 K ++ [32] ++ r ++ [13, 10]) = X5 at *
  generalize hx4 : bs (pfxL ++ prtI 10 K ++ [32] ++ r) = X4 at *
  generalize hx3 : bs (pfxL ++ prtI 10 K ++ [32]) = X3 at *
  generalize hx2 : bs (pfxL ++ prtI 10 K) = X2 at *
  generalize hx1 : bs (prtI 10 K) = X1 at *
  generalize hx0 : bs r = X0 at *
  clear hx5 hx4 hx3 hx2 hx1 hx0 e32 ep e13 hl hw hr hK0
  go_enter Tryz.func37, Tryz.ntmps37
  go_wp2_with fail
  have P0 := Lib.hid p0
  have P1 := Lib.hid p1
  have PZ := Lib.hid pz
  clear p0 p1 pz
  generalize World.alloc w _ = W at *
  generalize hBB : w.heap.size = B at *
  refine region_mixt 8 [some (.int .i64 K), some (.string X1), some (.string X2), some (.string X3), some (.pointer (some ⟨B, 1, none⟩)), some (.string X0), some (.string X4), some (.string X5)]
    [[false, false, false, false, false, false, false, false], [true, false, false, false, false, false, false, false], [false, true, false, false, false, false, false, false], [false, false, true, false, false, false, false, false], [false, false, false, false, false, false, false, false], [false, false, false, false, true, false, false, false], [false, false, false, true, false, true, false, false], [false, false, false, false, false, false, true, false]]
    (fun L x w1 => Below W.heap.size W w1)
    (by kernel_rfl) (by kernel_rfl) (by kernel_rfl) (by kernel_rfl) (by kernel_rfl) (by decide) ?_ ?_ ?_
  · intro _
    exact (Below.refl _ _).drew
  · simp only [List.take_succ_cons, List.take_zero]
    refine ⟨?_, ?_, ?_, ?_, ?_, ?_, ?_, ?_, trivial⟩
    all_goals
      intro L x w9 hS hl hp K9 hK9
      have hs : Below W.heap.size W w9 := hS
      have q0 : w9.cell? ⟨B, 0, none⟩ = some (.int .i64 c) := by rw [(bcell hs).1 _ _ PZ.out]; exact P0.out
      have q1 : w9.cell? ⟨B, 1, none⟩ = some (.string X0) := by rw [(bcell hs).1 _ _ PZ.out]; exact P1.out
      clear hS hp hl
      replace hK9 := hK9.out
      simp only [actMix, pickV, List.tail_cons, List.headD_cons, Act.put, List.setIfInBounds_toArray, List.set_cons_zero, List.set_cons_succ] at hK9 ⊢
    · go_simp
      with_reducible refine hK9 _ ?_
      exact hs
    · go_simp
      refine (HD.out w9 (hP.out.below hs)).mono ?_
      rintro e w8 ⟨rfl, hb8⟩
      with_reducible refine hK9 _ ?_
      exact hs.trans (hb8.mono hs.size)
    · go_simp
      with_reducible refine hK9 _ ?_
      exact hs
    · go_simp
      with_reducible refine hK9 _ ?_
      exact hs
    · go_simp
      with_reducible refine hK9 _ ?_
      exact hs
    · go_simp
      with_reducible refine hK9 _ ?_
      exact hs
    · go_simp
      with_reducible refine hK9 _ ?_
      exact hs
    · go_simp
      with_reducible refine hK9 _ ?_
      exact hs
  · intro L x w9 hS hL
    have hs : Below W.heap.size W w9 := hS
    clear hS hL
    simp only [actMix, pickV, List.tail_cons, List.headD_cons, Act.put, List.setIfInBounds_toArray, List.set_cons_zero, List.set_cons_succ, List.replicate_succ, List.replicate_zero, List.drop_succ_cons, List.drop_zero, List.take_succ_cons, List.take_zero]
    go_wp2_with fail
    go_ret
    exact ⟨rfl, by rw [hBB]; exact L0.out.trans (hs.mono (by rw [← hBB]; exact L0.out.size))⟩
set_option maxRecDepth 100000 in
set_option maxHeartbeats 4000000 in
theorem rsline16 (c : Int) (r : List UInt8) (hr : r.length ≤ 4000000000) (w : World) (hw : Pow w) :
    Calls Tryz.prog 39 #[.agg #[.int .i64 c, .string (bs r)]] w fun e w' => e = .returned (.string (bs (stLine (c, r)))) ∧ Below w.heap.size w w' := by
  have hK0 : codeT c < 9223372036854775808 := by unfold codeT; omega
  have A2 := fun V => add_str pfxL (prtI 10 (codeT c)) (by have := prtI_short (codeT c); simp [pfxL]; omega) V
  have A3 := fun V => add_str (pfxL ++ prtI 10 (codeT c)) [32] (by have := prtI_short (codeT c); simp [pfxL]; omega) V
  have A4 := fun V => add_str (pfxL ++ prtI 10 (codeT c) ++ [32]) r (by have := prtI_short (codeT c); simp [pfxL]; omega) V
  have A5 := fun V => add_str (pfxL ++ prtI 10 (codeT c) ++ [32] ++ r) [13, 10] (by have := prtI_short (codeT c); simp [pfxL]; omega) V
  have e32 : bs [32] = ⟨#[32]⟩ := rfl
  have ep : bs pfxL = ⟨#[72, 84, 84, 80, 47, 49, 46, 49, 32]⟩ := rfl
  have e13 : bs [13, 10] = ⟨#[13, 10]⟩ := rfl
  rw [ep] at A2
  rw [e32] at A3
  rw [e13] at A5
  have hl : stLine (c, r) = pfxL ++ prtI 10 (codeT c) ++ [32] ++ r ++ [13, 10] := rfl
  rw [hl]
  obtain ⟨K, hKc⟩ : ∃ K, codeT c = K := ⟨_, rfl⟩
  rw [hKc] at A2 A3 A4 A5 hK0 ⊢
  have hKp : 0 ≤ K := by rw [← hKc]; unfold codeT; omega
  have HD : Hid (∀ W, Pow W → Calls Tryz.prog 77 #[.int .i64 K] W fun e w' => e = .returned (.string (bs (prtI 10 K))) ∧ Below W.heap.size W w') := fun W hW => itoa_i K hKp hK0 W hW
  obtain ⟨M5, hm5⟩ : ∃ M5, min c 599 = M5 := ⟨_, rfl⟩
  have hm6 : max 200 M5 = K := by rw [← hm5, ← hKc]; unfold codeT; omega
  clear hKp
  have hP := Lib.hid (hw.below (below_alloc w (.cells #[.int .i64 c, .string (bs r)] 84)))
  have L0 := Lib.hid (below_alloc w (.cells #[.int .i64 c, .string (bs r)] 84))
  have p0 : (w.alloc (.cells #[.int .i64 c, .string (bs r)] 84)).cell? ⟨w.heap.size, 0, none⟩ = some (.int .i64 c) := by simp
  have p1 : (w.alloc (.cells #[.int .i64 c, .string (bs r)] 84)).cell? ⟨w.heap.size, 1, none⟩ = some (.string (bs r)) := by simp
  have pz : w.heap.size < (w.alloc (.cells #[.int .i64 c, .string (bs r)] 84)).heap.size := by simp
  generalize hx5 : bs (pfxL ++ prtI 10 K ++ [32] ++ r ++ [13, 10]) = X5 at *
  generalize hx4 : bs (pfxL ++ prtI 10 K ++ [32] ++ r) = X4 at *
  generalize hx3 : bs (pfxL ++ prtI 10 K ++ [32]) = X3 at *
  generalize hx2 : bs (pfxL ++ prtI 10 K) = X2 at *
  generalize hx1 : bs (prtI 10 K) = X1 at *
  generalize hx0 : bs r = X0 at *
  clear hx5 hx4 hx3 hx2 hx1 hx0 e32 ep e13 hl hw hr hK0
  go_enter Tryz.func39, Tryz.ntmps39
  go_wp2_with fail
  have P0 := Lib.hid p0
  have P1 := Lib.hid p1
  have PZ := Lib.hid pz
  clear p0 p1 pz
  generalize World.alloc w _ = W at *
  generalize hBB : w.heap.size = B at *
  refine region_mixt 11 [some (.pointer (some ⟨B, 0, none⟩)), some (.int .i64 c), some (.int .i64 M5), some (.int .i64 K), some (.string X1), some (.string X2), some (.string X3), some (.pointer (some ⟨B, 1, none⟩)), some (.string X0), some (.string X4), some (.string X5)]
    [[false, false, false, false, false, false, false, false, false, false, false], [true, false, false, false, false, false, false, false, false, false, false], [false, true, false, false, false, false, false, false, false, false, false], [false, false, true, false, false, false, false, false, false, false, false], [false, false, false, true, false, false, false, false, false, false, false], [false, false, false, false, true, false, false, false, false, false, false], [false, false, false, false, false, true, false, false, false, false, false], [false, false, false, false, false, false, false, false, false, false, false], [false, false, false, false, false, false, false, true, false, false, false], [false, false, false, false, false, false, true, false, true, false, false], [false, false, false, false, false, false, false, false, false, true, false]]
    (fun L x w1 => Below W.heap.size W w1)
    (by kernel_rfl) (by kernel_rfl) (by kernel_rfl) (by kernel_rfl) (by kernel_rfl) (by decide) ?_ ?_ ?_
  · intro _
    exact (Below.refl _ _).drew
  · simp only [List.take_succ_cons, List.take_zero]
    refine ⟨?_, ?_, ?_, ?_, ?_, ?_, ?_, ?_, ?_, ?_, ?_, trivial⟩
    all_goals
      intro L x w9 hS hl hp K9 hK9
      have hs : Below W.heap.size W w9 := hS
      have q0 : w9.cell? ⟨B, 0, none⟩ = some (.int .i64 c) := by rw [(bcell hs).1 _ _ PZ.out]; exact P0.out
      have q1 : w9.cell? ⟨B, 1, none⟩ = some (.string X0) := by rw [(bcell hs).1 _ _ PZ.out]; exact P1.out
      clear hS hp hl
      replace hK9 := hK9.out
      simp only [actMix, pickV, List.tail_cons, List.headD_cons, Act.put, List.setIfInBounds_toArray, List.set_cons_zero, List.set_cons_succ] at hK9 ⊢
    · go_simp
      with_reducible refine hK9 _ ?_
      exact hs
    · go_simp
      with_reducible refine hK9 _ ?_
      exact hs
    · go_simp
      with_reducible refine hK9 _ ?_
      exact hs
    · go_simp
      with_reducible refine hK9 _ ?_
      exact hs
    · go_simp
      refine (HD.out w9 (hP.out.below hs)).mono ?_
      rintro e w8 ⟨rfl, hb8⟩
      with_reducible refine hK9 _ ?_
      exact hs.trans (hb8.mono hs.size)
    · go_simp
      with_reducible refine hK9 _ ?_
      exact hs
    · go_simp
      with_reducible refine hK9 _ ?_
      exact hs
    · go_simp
      with_reducible refine hK9 _ ?_
      exact hs
    · go_simp
      with_reducible refine hK9 _ ?_
      exact hs
    · go_simp
      with_reducible refine hK9 _ ?_
      exact hs
    · go_simp
      with_reducible refine hK9 _ ?_
      exact hs
  · intro L x w9 hS hL
    have hs : Below W.heap.size W w9 := hS
    clear hS hL
    simp only [actMix, pickV, List.tail_cons, List.headD_cons, Act.put, List.setIfInBounds_toArray, List.set_cons_zero, List.set_cons_succ, List.replicate_succ, List.replicate_zero, List.drop_succ_cons, List.drop_zero, List.take_succ_cons, List.take_zero]
    go_wp2_with fail
    go_ret
    exact ⟨rfl, by rw [hBB]; exact L0.out.trans (hs.mono (by rw [← hBB]; exact L0.out.size))⟩
end Go.Proofs.YtbbphklhnngjmaaGreatDoor

/- start: Reason, over its table of words. -/
namespace Go.Proofs.YtbbphklhnngjmaaGreatDoor
open Go.RowKit

/-- The table's cells. -/
def reasC : List Value := [.int .i64 200, .string ⟨#[79, 75]⟩, .int .i64 400, .string ⟨#[66, 97, 100, 32, 82, 101, 113, 117, 101, 115, 116]⟩, .int .i64 413, .string ⟨#[67, 111, 110, 116, 101, 110, 116, 32, 84, 111, 111, 32, 76, 97, 114, 103, 101]⟩, .int .i64 431, .string ⟨#[82, 101, 113, 117, 101, 115, 116, 32, 72, 101, 97, 100, 101, 114, 32, 70, 105, 101, 108, 100, 115, 32, 84, 111, 111, 32, 76, 97, 114, 103, 101]⟩, .int .i64 502, .string ⟨#[66, 97, 100, 32, 71, 97, 116, 101, 119, 97, 121]⟩, .int .i64 503, .string ⟨#[83, 101, 114, 118, 105, 99, 101, 32, 85, 110, 97, 118, 97, 105, 108, 97, 98, 108, 101]⟩, .int .i64 504, .string ⟨#[71, 97, 116, 101, 119, 97, 121, 32, 84, 105, 109, 101, 111, 117, 116]⟩]
def Reas (w : World) : Prop := 0 < w.heap.size ∧ w.rangeAt 0 0 reasC
theorem Reas.below {w w' : World} (h : Reas w) (hb : Below w.heap.size w w') : Reas w' :=
  ⟨Nat.lt_of_lt_of_le h.1 hb.size, fun j v hv => by rw [(bcell hb).1 _ _ h.1]; exact h.2 j v hv⟩
theorem reas_size : (Tryz.prog.info? 141).map (·.size) = some reasC.length := by kernel_rfl
def codes : List Int := [200, 400, 413, 431, 502, 503, 504]
theorem reason_none (c : Int) (h : ∀ x ∈ codes, c ≠ x) : reasonL c = [] := by
  unfold reasonL
  rw [if_neg (h 200 (by decide))]
  rw [if_neg (h 400 (by decide))]
  rw [if_neg (h 413 (by decide))]
  rw [if_neg (h 431 (by decide))]
  rw [if_neg (h 502 (by decide))]
  rw [if_neg (h 503 (by decide))]
  rw [if_neg (h 504 (by decide))]
theorem reason_200 : reasonL 200 = [79, 75] := by rfl
theorem reason_400 : reasonL 400 = [66, 97, 100, 32, 82, 101, 113, 117, 101, 115, 116] := by rfl
theorem reason_413 : reasonL 413 = [67, 111, 110, 116, 101, 110, 116, 32, 84, 111, 111, 32, 76, 97, 114, 103, 101] := by rfl
theorem reason_431 : reasonL 431 = [82, 101, 113, 117, 101, 115, 116, 32, 72, 101, 97, 100, 101, 114, 32, 70, 105, 101, 108, 100, 115, 32, 84, 111, 111, 32, 76, 97, 114, 103, 101] := by rfl
theorem reason_502 : reasonL 502 = [66, 97, 100, 32, 71, 97, 116, 101, 119, 97, 121] := by rfl
theorem reason_503 : reasonL 503 = [83, 101, 114, 118, 105, 99, 101, 32, 85, 110, 97, 118, 97, 105, 108, 97, 98, 108, 101] := by rfl
theorem reason_504 : reasonL 504 = [71, 97, 116, 101, 119, 97, 121, 32, 84, 105, 109, 101, 111, 117, 116] := by rfl
theorem reas_ix_0 (w : World) : (Instr.index 141 (.agg reasC.toArray) (.int .i64 0)).run Tryz.prog w = .ok (.agg #[.int .i64 200, .string ⟨#[79, 75]⟩]) w := by kernel_rfl
theorem reas_ix_1 (w : World) : (Instr.index 141 (.agg reasC.toArray) (.int .i64 1)).run Tryz.prog w = .ok (.agg #[.int .i64 400, .string ⟨#[66, 97, 100, 32, 82, 101, 113, 117, 101, 115, 116]⟩]) w := by kernel_rfl
theorem reas_ix_2 (w : World) : (Instr.index 141 (.agg reasC.toArray) (.int .i64 2)).run Tryz.prog w = .ok (.agg #[.int .i64 413, .string ⟨#[67, 111, 110, 116, 101, 110, 116, 32, 84, 111, 111, 32, 76, 97, 114, 103, 101]⟩]) w := by kernel_rfl
theorem reas_ix_3 (w : World) : (Instr.index 141 (.agg reasC.toArray) (.int .i64 3)).run Tryz.prog w = .ok (.agg #[.int .i64 431, .string ⟨#[82, 101, 113, 117, 101, 115, 116, 32, 72, 101, 97, 100, 101, 114, 32, 70, 105, 101, 108, 100, 115, 32, 84, 111, 111, 32, 76, 97, 114, 103, 101]⟩]) w := by kernel_rfl
theorem reas_ix_4 (w : World) : (Instr.index 141 (.agg reasC.toArray) (.int .i64 4)).run Tryz.prog w = .ok (.agg #[.int .i64 502, .string ⟨#[66, 97, 100, 32, 71, 97, 116, 101, 119, 97, 121]⟩]) w := by kernel_rfl
theorem reas_ix_5 (w : World) : (Instr.index 141 (.agg reasC.toArray) (.int .i64 5)).run Tryz.prog w = .ok (.agg #[.int .i64 503, .string ⟨#[83, 101, 114, 118, 105, 99, 101, 32, 85, 110, 97, 118, 97, 105, 108, 97, 98, 108, 101]⟩]) w := by kernel_rfl
theorem reas_ix_6 (w : World) : (Instr.index 141 (.agg reasC.toArray) (.int .i64 6)).run Tryz.prog w = .ok (.agg #[.int .i64 504, .string ⟨#[71, 97, 116, 101, 119, 97, 121, 32, 84, 105, 109, 101, 111, 117, 116]⟩]) w := by kernel_rfl
set_option maxRecDepth 100000 in
set_option maxHeartbeats 8000000 in
theorem reason22 (c : Int) (w : World) (hr : Reas w) :
    Calls Tryz.prog 72 #[.int .i64 c] w fun e w' => e = .returned (.string (bs (reasonL c))) ∧ Below w.heap.size w w' := by
  obtain ⟨R, hR⟩ : ∃ R, reasonL c = R := ⟨_, rfl⟩
  rw [hR]
  have HR := Lib.hid hR
  have hrange := hr.2
  have HS := reas_size
  clear hR hr
  go_enter Tryz.func72, Tryz.ntmps72
  go_wp2_with (refine wpList_load_mid rfl 141 _ rfl 0 0 rfl reasC _ hrange Tryz.underlying141 rfl HS ?_)
  clear hrange HS
  go_loopw [6] (fun i wr => ∃ j : Nat, j ≤ 7 ∧ i = .int .i64 (j : Int) ∧ Hid (∀ x ∈ codes.take j, c ≠ x) ∧ Below w.heap.size w wr) (fun i _ => 7 - (intOf i).toNat)
  case atStart => exact ⟨0, Nat.zero_le _, rfl, (by simp [Hid]), Below.refl _ _⟩
  case round =>
    obtain ⟨j, hj, rfl, hn, hb⟩ := hrel
    match j, hj with
    | 0, _ =>
      by_cases hc : c = 200
      · subst hc
        have HV : Hid (R = [79, 75]) := HR.out.symm.trans reason_200
        clear hn HR
        have hx := reas_ix_0 wr
        go_wp2_with fail
        go_ret
        exact ⟨by rw [HV.out]; rfl, hb.trans ((below_alloc wr _).mono hb.size)⟩
      · have hc2 : ((200 : Int) == c) = false := beq_eq_false_iff_ne.2 (fun e => hc e.symm)
        have hn2 : Hid (∀ x ∈ codes.take 1, c ≠ x) := by
          show ∀ x ∈ codes.take 1, c ≠ x
          have h0 := hn.out
          intro x hx
          by_cases hx0 : x ∈ codes.take 0
          · exact h0 x hx0
          · have : x = 200 := by
              simp only [codes, List.take_succ_cons, List.take_zero, List.mem_cons, List.not_mem_nil, or_false] at hx hx0
              omega
            subst this
            exact hc
        clear hc hn
        have hx := reas_ix_0 wr
        go_wp2_with fail
        go_roundw
        case rel => exact ⟨1, by omega, by first | rfl | go_num, hn2, hb.trans ((below_alloc wr _).mono hb.size)⟩
        case measure => simp [intOf]
    | 1, _ =>
      by_cases hc : c = 400
      · subst hc
        have HV : Hid (R = [66, 97, 100, 32, 82, 101, 113, 117, 101, 115, 116]) := HR.out.symm.trans reason_400
        clear hn HR
        have hx := reas_ix_1 wr
        go_wp2_with fail
        go_ret
        exact ⟨by rw [HV.out]; rfl, hb.trans ((below_alloc wr _).mono hb.size)⟩
      · have hc2 : ((400 : Int) == c) = false := beq_eq_false_iff_ne.2 (fun e => hc e.symm)
        have hn2 : Hid (∀ x ∈ codes.take 2, c ≠ x) := by
          show ∀ x ∈ codes.take 2, c ≠ x
          have h0 := hn.out
          intro x hx
          by_cases hx0 : x ∈ codes.take 1
          · exact h0 x hx0
          · have : x = 400 := by
              simp only [codes, List.take_succ_cons, List.take_zero, List.mem_cons, List.not_mem_nil, or_false] at hx hx0
              omega
            subst this
            exact hc
        clear hc hn
        have hx := reas_ix_1 wr
        go_wp2_with fail
        go_roundw
        case rel => exact ⟨2, by omega, by first | rfl | go_num, hn2, hb.trans ((below_alloc wr _).mono hb.size)⟩
        case measure => simp [intOf]
    | 2, _ =>
      by_cases hc : c = 413
      · subst hc
        have HV : Hid (R = [67, 111, 110, 116, 101, 110, 116, 32, 84, 111, 111, 32, 76, 97, 114, 103, 101]) := HR.out.symm.trans reason_413
        clear hn HR
        have hx := reas_ix_2 wr
        go_wp2_with fail
        go_ret
        exact ⟨by rw [HV.out]; rfl, hb.trans ((below_alloc wr _).mono hb.size)⟩
      · have hc2 : ((413 : Int) == c) = false := beq_eq_false_iff_ne.2 (fun e => hc e.symm)
        have hn2 : Hid (∀ x ∈ codes.take 3, c ≠ x) := by
          show ∀ x ∈ codes.take 3, c ≠ x
          have h0 := hn.out
          intro x hx
          by_cases hx0 : x ∈ codes.take 2
          · exact h0 x hx0
          · have : x = 413 := by
              simp only [codes, List.take_succ_cons, List.take_zero, List.mem_cons, List.not_mem_nil, or_false] at hx hx0
              omega
            subst this
            exact hc
        clear hc hn
        have hx := reas_ix_2 wr
        go_wp2_with fail
        go_roundw
        case rel => exact ⟨3, by omega, by first | rfl | go_num, hn2, hb.trans ((below_alloc wr _).mono hb.size)⟩
        case measure => simp [intOf]
    | 3, _ =>
      by_cases hc : c = 431
      · subst hc
        have HV : Hid (R = [82, 101, 113, 117, 101, 115, 116, 32, 72, 101, 97, 100, 101, 114, 32, 70, 105, 101, 108, 100, 115, 32, 84, 111, 111, 32, 76, 97, 114, 103, 101]) := HR.out.symm.trans reason_431
        clear hn HR
        have hx := reas_ix_3 wr
        go_wp2_with fail
        go_ret
        exact ⟨by rw [HV.out]; rfl, hb.trans ((below_alloc wr _).mono hb.size)⟩
      · have hc2 : ((431 : Int) == c) = false := beq_eq_false_iff_ne.2 (fun e => hc e.symm)
        have hn2 : Hid (∀ x ∈ codes.take 4, c ≠ x) := by
          show ∀ x ∈ codes.take 4, c ≠ x
          have h0 := hn.out
          intro x hx
          by_cases hx0 : x ∈ codes.take 3
          · exact h0 x hx0
          · have : x = 431 := by
              simp only [codes, List.take_succ_cons, List.take_zero, List.mem_cons, List.not_mem_nil, or_false] at hx hx0
              omega
            subst this
            exact hc
        clear hc hn
        have hx := reas_ix_3 wr
        go_wp2_with fail
        go_roundw
        case rel => exact ⟨4, by omega, by first | rfl | go_num, hn2, hb.trans ((below_alloc wr _).mono hb.size)⟩
        case measure => simp [intOf]
    | 4, _ =>
      by_cases hc : c = 502
      · subst hc
        have HV : Hid (R = [66, 97, 100, 32, 71, 97, 116, 101, 119, 97, 121]) := HR.out.symm.trans reason_502
        clear hn HR
        have hx := reas_ix_4 wr
        go_wp2_with fail
        go_ret
        exact ⟨by rw [HV.out]; rfl, hb.trans ((below_alloc wr _).mono hb.size)⟩
      · have hc2 : ((502 : Int) == c) = false := beq_eq_false_iff_ne.2 (fun e => hc e.symm)
        have hn2 : Hid (∀ x ∈ codes.take 5, c ≠ x) := by
          show ∀ x ∈ codes.take 5, c ≠ x
          have h0 := hn.out
          intro x hx
          by_cases hx0 : x ∈ codes.take 4
          · exact h0 x hx0
          · have : x = 502 := by
              simp only [codes, List.take_succ_cons, List.take_zero, List.mem_cons, List.not_mem_nil, or_false] at hx hx0
              omega
            subst this
            exact hc
        clear hc hn
        have hx := reas_ix_4 wr
        go_wp2_with fail
        go_roundw
        case rel => exact ⟨5, by omega, by first | rfl | go_num, hn2, hb.trans ((below_alloc wr _).mono hb.size)⟩
        case measure => simp [intOf]
    | 5, _ =>
      by_cases hc : c = 503
      · subst hc
        have HV : Hid (R = [83, 101, 114, 118, 105, 99, 101, 32, 85, 110, 97, 118, 97, 105, 108, 97, 98, 108, 101]) := HR.out.symm.trans reason_503
        clear hn HR
        have hx := reas_ix_5 wr
        go_wp2_with fail
        go_ret
        exact ⟨by rw [HV.out]; rfl, hb.trans ((below_alloc wr _).mono hb.size)⟩
      · have hc2 : ((503 : Int) == c) = false := beq_eq_false_iff_ne.2 (fun e => hc e.symm)
        have hn2 : Hid (∀ x ∈ codes.take 6, c ≠ x) := by
          show ∀ x ∈ codes.take 6, c ≠ x
          have h0 := hn.out
          intro x hx
          by_cases hx0 : x ∈ codes.take 5
          · exact h0 x hx0
          · have : x = 503 := by
              simp only [codes, List.take_succ_cons, List.take_zero, List.mem_cons, List.not_mem_nil, or_false] at hx hx0
              omega
            subst this
            exact hc
        clear hc hn
        have hx := reas_ix_5 wr
        go_wp2_with fail
        go_roundw
        case rel => exact ⟨6, by omega, by first | rfl | go_num, hn2, hb.trans ((below_alloc wr _).mono hb.size)⟩
        case measure => simp [intOf]
    | 6, _ =>
      by_cases hc : c = 504
      · subst hc
        have HV : Hid (R = [71, 97, 116, 101, 119, 97, 121, 32, 84, 105, 109, 101, 111, 117, 116]) := HR.out.symm.trans reason_504
        clear hn HR
        have hx := reas_ix_6 wr
        go_wp2_with fail
        go_ret
        exact ⟨by rw [HV.out]; rfl, hb.trans ((below_alloc wr _).mono hb.size)⟩
      · have hc2 : ((504 : Int) == c) = false := beq_eq_false_iff_ne.2 (fun e => hc e.symm)
        have hn2 : Hid (∀ x ∈ codes.take 7, c ≠ x) := by
          show ∀ x ∈ codes.take 7, c ≠ x
          have h0 := hn.out
          intro x hx
          by_cases hx0 : x ∈ codes.take 6
          · exact h0 x hx0
          · have : x = 504 := by
              simp only [codes, List.take_succ_cons, List.take_zero, List.mem_cons, List.not_mem_nil, or_false] at hx hx0
              omega
            subst this
            exact hc
        clear hc hn
        have hx := reas_ix_6 wr
        go_wp2_with fail
        go_roundw
        case rel => exact ⟨7, by omega, by first | rfl | go_num, hn2, hb.trans ((below_alloc wr _).mono hb.size)⟩
        case measure => simp [intOf]
    | 7, _ =>
      have HV : Hid (R = []) := HR.out.symm.trans (reason_none c hn.out)
      clear hn HR
      go_wp2_with fail
      go_ret
      exact ⟨by rw [HV.out]; rfl, hb⟩
end Go.Proofs.YtbbphklhnngjmaaGreatDoor

/- The fixed facts of start. -/
namespace Go.Proofs.YtbbphklhnngjmaaGreatDoor
open Go.RowKit

/-- What start's statements ask of the world: the library's variables and the table of words. -/
def LaidS (w : World) : Prop := MaxL w ∧ Syn w ∧ Pow w ∧ Reas w
theorem LaidS.below {w w' : World} (h : LaidS w) (hb : Below w.heap.size w w') : LaidS w' :=
  ⟨h.1.below hb, h.2.1.below hb, h.2.2.1.below hb, h.2.2.2.below hb⟩
theorem preq_get : reqP [71, 69, 84, 32, 47, 97, 63, 98, 32, 72, 84, 84, 80, 47, 49, 46, 49] = some ([71, 69, 84], [47, 97, 63, 98]) := by decide +kernel
theorem pst_200 : stP [72, 84, 84, 80, 47, 49, 46, 49, 32, 50, 48, 48] = some (200, []) := by decide +kernel
theorem path_a : pathL [47, 97, 63, 98] = [47, 97] := by decide +kernel
theorem idem_get : idemB [71, 69, 84] = true := by decide +kernel
end Go.Proofs.YtbbphklhnngjmaaGreatDoor

/- Records of strings and numbers that are handed in by value. -/
namespace Go.Proofs.YtbbphklhnngjmaaGreatDoor
open Go.ChangeShapes Go.WideShapes Go.ChangeAt Go.RowKit

/-- The fields of a record: their types and offsets. -/
def fieldsOf (d : TypeDesc) : List (TypeId × Nat) := match d with
  | .struct fs => fs.toList.map fun f => (f.type, f.offset)
  | _ => []
theorem fieldsOf_struct {o : Option TypeDesc} {l : List (TypeId × Nat)} (h : o.map fieldsOf = some l) (hl : l ≠ []) : ∃ fs : Array Field, o = some (.struct fs) ∧ fs.toList.map (fun f => (f.type, f.offset)) = l := by
  cases o with
  | none => cases h
  | some d =>
    cases d with
    | struct fs => exact ⟨fs, rfl, Option.some.inj h⟩
    | _ => exact absurd (Option.some.inj h).symm hl
section
variable {H : Type} {enc : TypeId × Value → H} {P : Program} {t : TypeId} {W : World} {base : Nat} {sp : Nat → Bool} {held : Bool}
theorem rec_open {l : List (TypeId × Nat)} (hu : (P.underlying t).map fieldsOf = some l) (hl : l ≠ []) {r : Reach} {b0 : Nat} {v : Value} {d : DataW H} {ps : List MemPlace}
    (hval : Value.okWide P W r b0 t v) (hd : DataW.Trod enc P W base sp held t v d ps) :
    ∃ (cs : Array Value) (xs : List (DataW H × List MemPlace)) (n : Nat), v = .agg cs ∧ cs.toList.length = P.cellsOf t ∧ d = .agg (xs.map (·.1)) ∧ ps = xs.flatMap (·.2) ∧ xs.length = l.length ∧
      ∀ (i : Nat) (u : TypeId) (o : Nat), l[i]? = some (u, o) → DataW.trod enc P W base sp held n u ((cs.toList.drop o).take (P.cellsOf u)) = xs[i]? := by
  obtain ⟨fs, hs, rfl⟩ := fieldsOf_struct hu hl
  obtain ⟨cs, rfl, hc⟩ := okWide_struct hs hval
  obtain ⟨fuel, hf⟩ := hd
  obtain ⟨xs, n, _, hx, h1, h2, h3⟩ := DataW.trod_struct hs hf
  simp only [Prod.mk.injEq] at hx
  refine ⟨cs, xs, n, rfl, h1, hx.1, hx.2, by simpa using h2, fun i u o hi => ?_⟩
  rw [List.getElem?_map] at hi
  obtain ⟨f, hf', he⟩ := Option.map_eq_some_iff.1 hi
  simp only [Prod.mk.injEq] at he
  obtain ⟨rfl, rfl⟩ := he
  exact h3 i f (by simpa using hf')
theorem rec_shut {l : List (TypeId × Nat)} (hu : (P.underlying t).map fieldsOf = some l) (hl : l ≠ []) (cs : List Value) (xs : List (DataW H × List MemPlace)) (n : Nat) (hc : cs.length = P.cellsOf t)
    (hm : l.mapM (fun q => DataW.trod enc P W base sp held n q.1 ((cs.drop q.2).take (P.cellsOf q.1))) = some xs) : DataW.Trod enc P W base sp held t (.agg cs.toArray) (.agg (xs.map (·.1))) (xs.flatMap (·.2)) := by
  obtain ⟨fs, hs, rfl⟩ := fieldsOf_struct hu hl
  refine ⟨n + 1, ?_⟩
  have := trod_struct_mk (enc := enc) (w := W) (base := base) (spare := sp) (held := held) (n := n) (cs := cs) (xs := xs) hs hc (by rw [List.mapM_map] at hm; exact hm)
  exact this
end
theorem one_cellR {cs : List Value} {i : Nat} {v : Value} (h : (cs.drop i).take 1 = [v]) : cs[i]? = some v := by
  have h1 : ((cs.drop i).take 1)[0]? = some v := by rw [h]; rfl
  rw [List.getElem?_take, if_pos (by decide), List.getElem?_drop] at h1
  exact h1
end Go.Proofs.YtbbphklhnngjmaaGreatDoor

