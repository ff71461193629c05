/- The walk of the statement StartStatuses. -/
import Derived.Test.YtkajfocjpaemgaaDoorLawStR
namespace Go.Proofs.YtkajfocjpaemgaaDoor
open Go.RowKit

theorem stLine_cut (c : Int) (r : List UInt8) : (bs (stLine (c, r))).extract 0 ((stLine (c, r)).length - 2) = bs (pfxL ++ prtI 10 (codeT c) ++ [32] ++ r) := by
  rw [extractC]
  apply ByteArray.ext
  show ((stLine (c, r)).drop 0 |>.take ((stLine (c, r)).length - 2 - 0)).toArray = _
  rw [List.drop_zero, Nat.sub_zero]
  have e : stLine (c, r) = (pfxL ++ prtI 10 (codeT c) ++ [32] ++ r) ++ [13, 10] := rfl
  have hl : (stLine (c, r)).length - 2 = (pfxL ++ prtI 10 (codeT c) ++ [32] ++ r).length := by rw [e, List.length_append]; rfl
  rw [hl, e, List.take_left']
  · rfl
  · rfl
set_option maxRecDepth 100000 in
set_option maxHeartbeats 4000000 in
theorem lawStartStatuses (s : ByteArray) (w : World) (hw : LaidS w) :
    Calls Tryd.prog 4 #[.string s] w fun e w' => e = .returned (.bool true) ∧ Below w.heap.size w w' := by
  have HW := Lib.hid hw
  clear hw
  go_enter Tryd.func4, Tryd.ntmps4
  go_wp2_with fail
  refine (awake7 w HW.out).mono ?_
  rintro e w1 ⟨rfl, hb1⟩
  go_wp2_with fail
  refine (cut11 s 80 _).mono ?_
  rintro e w' ⟨rfl, rfl⟩
  obtain ⟨t, ht⟩ : ∃ t, t = cutS s 80 := ⟨_, rfl⟩
  have hz : t.size ≤ 80 := by rw [ht]; exact cutS_size _ _
  rw [← ht]
  clear ht
  have W1 : Hid (LaidS w1) := HW.out.below hb1
  clear HW
  have hzl : t.data.toList.length ≤ 80 := by rw [← Lib.size_eq]; exact hz
  have H1 := Lib.hid (pst13 t (by omega) w1 W1.out.1 W1.out.2.1)
  have H2 := Lib.hid (fun W => rpst14 t (by omega) W)
  simp only [stR_eq] at H2
  cases hp : stP t.data.toList with
  | none =>
    have hv : stO none = .tuple #[.agg #[.int .i64 0, .string ⟨#[]⟩], .int .i64 2] := rfl
    rw [hp, hv] at H1
    simp only [hp, hv] at H2
    clear hv hp hz hzl
    go_wp2_with fail
    refine H1.out.mono ?_
    rintro e w2 ⟨rfl, hb2⟩
    have b2 := hb1.trans (hb2.mono hb1.size)
    go_wp2_with fail
    have L2 := below_alloc w2 (.cells #[.int .i64 0, .string ⟨#[]⟩] 36)
    have c0 : (w2.alloc (.cells #[.int .i64 0, .string ⟨#[]⟩] 36)).cell? ⟨w2.heap.size, 0, none⟩ = some (.int .i64 0) := by simp
    have c1 : (w2.alloc (.cells #[.int .i64 0, .string ⟨#[]⟩] 36)).cell? ⟨w2.heap.size, 1, none⟩ = some (.string ⟨#[]⟩) := by simp
    have z2 : w2.heap.size < (w2.alloc (.cells #[.int .i64 0, .string ⟨#[]⟩] 36)).heap.size := by simp
    refine (H2.out _).mono ?_
    rintro e w3 ⟨rfl, hb3⟩
    have b3 := b2.trans ((L2.trans (hb3.mono L2.size)).mono b2.size)
    have d0 : (w3.alloc (.cells #[.int .i64 0, .string ⟨#[]⟩] 39)).cell? ⟨w2.heap.size, 0, none⟩ = some (.int .i64 0) := by
      rw [(bcell (below_alloc _ _)).1 _ _ (Nat.lt_of_lt_of_le z2 hb3.size), (bcell hb3).1 _ _ z2]; exact c0
    have d1 : (w3.alloc (.cells #[.int .i64 0, .string ⟨#[]⟩] 39)).cell? ⟨w2.heap.size, 1, none⟩ = some (.string ⟨#[]⟩) := by
      rw [(bcell (below_alloc _ _)).1 _ _ (Nat.lt_of_lt_of_le z2 hb3.size), (bcell hb3).1 _ _ z2]; exact c1
    clear c0 c1 L2 z2 hb3
    have se := self_strS ⟨#[]⟩
    go_wp2_with fail
    go_ret
    exact ⟨rfl, b3.trans ((below_alloc w3 _).mono b3.size)⟩
  | some f =>
    obtain ⟨c, r⟩ := f
    obtain ⟨_, _, _, hrl⟩ := stP_some hp
    simp only at hrl
    have hback := st_back hp
    simp only at hback
    have hv : stO (some (c, r)) = .tuple #[.agg #[.int .i64 c, .string (bs r)], .int .i64 0] := rfl
    rw [hp, hv] at H1
    simp only [hp, hv] at H2
    have HL : Hid (∀ W, LaidS W → Calls Tryd.prog 15 #[.agg #[.int .i64 c, .string (bs r)]] W fun e w' => e = .returned (.string (bs (stLine (c, r)))) ∧ Below W.heap.size W w') := fun W hW => sline15 c r (by omega) W hW.2.2.1
    have HM : Hid (∀ W, LaidS W → Calls Tryd.prog 16 #[.agg #[.int .i64 c, .string (bs r)]] W fun e w' => e = .returned (.string (bs (stLine (c, r)))) ∧ Below W.heap.size W w') := fun W hW => rsline16 c r (by omega) W hW.2.2.1
    have hpl := prtI_short (codeT c)
    have hlb : (bs (pfxL ++ prtI 10 (codeT c) ++ [32] ++ r)).size ≤ 4000000000 := by rw [bs_size]; simp [pfxL]; omega
    have H3 : Hid (∀ W, LaidS W → Calls Tryd.prog 13 #[.string (bs (pfxL ++ prtI 10 (codeT c) ++ [32] ++ r))] W fun e w' => e = .returned (.tuple #[.agg #[.int .i64 c, .string (bs r)], .int .i64 0]) ∧ Below W.heap.size W w') := fun W hW => by
      have h := pst13 _ hlb W hW.1 hW.2.1
      rwa [bs_list, hback, hv] at h
    have hcut := stLine_cut c r
    have hls : (bs (stLine (c, r))).size = (stLine (c, r)).length := bs_size _
    have hll : (stLine (c, r)).length = (prtI 10 (codeT c)).length + r.length + 12 := by simp [stLine, pfxL]; omega
    rw [← hls] at hcut hll
    have hB1 : (2 : Int) ≤ (bs (stLine (c, r))).size := by omega
    have hB2 : ((bs (stLine (c, r))).size : Int) ≤ 1000 := by omega
    have hB3 : wrap64 (((bs (stLine (c, r))).size : Int) - 2) = (((bs (stLine (c, r))).size - 2 : Nat) : Int) := by unfold wrap64; omega
    clear hls hll hpl
    generalize bs (stLine (c, r)) = B at *
    generalize bs (pfxL ++ prtI 10 (codeT c) ++ [32] ++ r) = lc at *
    have eB := self_strS B
    have eR := self_strS (bs r)
    have eC : (c == c) = true := by simp
    generalize bs r = RR at *
    clear hv hp hz hzl hback hlb hrl
    go_wp2_with fail
    refine H1.out.mono ?_
    rintro e w2 ⟨rfl, hb2⟩
    have b2 := hb1.trans (hb2.mono hb1.size)
    have W2 : Hid (LaidS w2) := W1.out.below hb2
    go_wp2_with fail
    have L2 := below_alloc w2 (.cells #[.int .i64 c, .string RR] 36)
    have c0 : (w2.alloc (.cells #[.int .i64 c, .string RR] 36)).cell? ⟨w2.heap.size, 0, none⟩ = some (.int .i64 c) := by simp
    have c1 : (w2.alloc (.cells #[.int .i64 c, .string RR] 36)).cell? ⟨w2.heap.size, 1, none⟩ = some (.string RR) := by simp
    have z2 : w2.heap.size < (w2.alloc (.cells #[.int .i64 c, .string RR] 36)).heap.size := by simp
    refine (H2.out _).mono ?_
    rintro e w3 ⟨rfl, hb3⟩
    have b3 := b2.trans ((L2.trans (hb3.mono L2.size)).mono b2.size)
    have L3 := below_alloc w3 (.cells #[.int .i64 c, .string RR] 39)
    have d0 : (w3.alloc (.cells #[.int .i64 c, .string RR] 39)).cell? ⟨w2.heap.size, 0, none⟩ = some (.int .i64 c) := by
      rw [(bcell L3).1 _ _ (Nat.lt_of_lt_of_le z2 hb3.size), (bcell hb3).1 _ _ z2]; exact c0
    have d1 : (w3.alloc (.cells #[.int .i64 c, .string RR] 39)).cell? ⟨w2.heap.size, 1, none⟩ = some (.string RR) := by
      rw [(bcell L3).1 _ _ (Nat.lt_of_lt_of_le z2 hb3.size), (bcell hb3).1 _ _ z2]; exact c1
    have x0 : (w3.alloc (.cells #[.int .i64 c, .string RR] 39)).cell? ⟨w3.heap.size, 0, none⟩ = some (.int .i64 c) := by simp
    have x1 : (w3.alloc (.cells #[.int .i64 c, .string RR] 39)).cell? ⟨w3.heap.size, 1, none⟩ = some (.string RR) := by simp
    have y3 : w3.heap.size < (w3.alloc (.cells #[.int .i64 c, .string RR] 39)).heap.size := by simp
    have z3 : w2.heap.size < (w3.alloc (.cells #[.int .i64 c, .string RR] 39)).heap.size := Nat.lt_of_lt_of_le (Nat.lt_of_lt_of_le z2 hb3.size) L3.size
    have W3 : Hid (LaidS (w3.alloc (.cells #[.int .i64 c, .string RR] 39))) := ((W2.out.below L2).below hb3).below L3
    have b4 := b3.trans (L3.mono b3.size)
    clear c0 c1 L2 z2 hb3 W1 W2 b2 b3 L3
    go_wp2_with fail
    generalize World.alloc w3 _ = w4 at *
    refine (HL.out _ W3.out).mono ?_
    rintro e w5 ⟨rfl, hb5⟩
    have e0 : w5.cell? ⟨w2.heap.size, 0, none⟩ = some (.int .i64 c) := by rw [(bcell hb5).1 _ _ z3]; exact d0
    have e1 : w5.cell? ⟨w2.heap.size, 1, none⟩ = some (.string RR) := by rw [(bcell hb5).1 _ _ z3]; exact d1
    have x50 : w5.cell? ⟨w3.heap.size, 0, none⟩ = some (.int .i64 c) := by rw [(bcell hb5).1 _ _ y3]; exact x0
    have x51 : w5.cell? ⟨w3.heap.size, 1, none⟩ = some (.string RR) := by rw [(bcell hb5).1 _ _ y3]; exact x1
    have z5 := Nat.lt_of_lt_of_le z3 hb5.size
    have y5 := Nat.lt_of_lt_of_le y3 hb5.size
    have W5 : Hid (LaidS w5) := W3.out.below hb5
    have b5 := b4.trans (hb5.mono b4.size)
    clear d0 d1 x0 x1 z3 y3 W3 hb5 b4
    go_wp2_with fail
    refine (H3.out w5 W5.out).mono ?_
    rintro e w6 ⟨rfl, hb6⟩
    have f0 : w6.cell? ⟨w2.heap.size, 0, none⟩ = some (.int .i64 c) := by rw [(bcell hb6).1 _ _ z5]; exact e0
    have f1 : w6.cell? ⟨w2.heap.size, 1, none⟩ = some (.string RR) := by rw [(bcell hb6).1 _ _ z5]; exact e1
    have x60 : w6.cell? ⟨w3.heap.size, 0, none⟩ = some (.int .i64 c) := by rw [(bcell hb6).1 _ _ y5]; exact x50
    have x61 : w6.cell? ⟨w3.heap.size, 1, none⟩ = some (.string RR) := by rw [(bcell hb6).1 _ _ y5]; exact x51
    have z6 := Nat.lt_of_lt_of_le z5 hb6.size
    have y6 := Nat.lt_of_lt_of_le y5 hb6.size
    have W6 : Hid (LaidS w6) := W5.out.below hb6
    have b6 := b5.trans (hb6.mono b5.size)
    have L6 := below_alloc w6 (.cells #[.int .i64 c, .string RR] 36)
    have g0 : (w6.alloc (.cells #[.int .i64 c, .string RR] 36)).cell? ⟨w2.heap.size, 0, none⟩ = some (.int .i64 c) := by rw [(bcell L6).1 _ _ z6]; exact f0
    have g1 : (w6.alloc (.cells #[.int .i64 c, .string RR] 36)).cell? ⟨w2.heap.size, 1, none⟩ = some (.string RR) := by rw [(bcell L6).1 _ _ z6]; exact f1
    have x70 : (w6.alloc (.cells #[.int .i64 c, .string RR] 36)).cell? ⟨w3.heap.size, 0, none⟩ = some (.int .i64 c) := by rw [(bcell L6).1 _ _ y6]; exact x60
    have x71 : (w6.alloc (.cells #[.int .i64 c, .string RR] 36)).cell? ⟨w3.heap.size, 1, none⟩ = some (.string RR) := by rw [(bcell L6).1 _ _ y6]; exact x61
    have v0 : (w6.alloc (.cells #[.int .i64 c, .string RR] 36)).cell? ⟨w6.heap.size, 0, none⟩ = some (.int .i64 c) := by simp
    have v1 : (w6.alloc (.cells #[.int .i64 c, .string RR] 36)).cell? ⟨w6.heap.size, 1, none⟩ = some (.string RR) := by simp
    have y7 : w6.heap.size < (w6.alloc (.cells #[.int .i64 c, .string RR] 36)).heap.size := by simp
    have z7 := Nat.lt_of_lt_of_le z6 L6.size
    have W7 : Hid (LaidS (w6.alloc (.cells #[.int .i64 c, .string RR] 36))) := W6.out.below L6
    have b7 := b6.trans (L6.mono b6.size)
    clear e0 e1 x50 x51 z5 y5 W5 hb6 b5 f0 f1 x60 x61 z6 y6 W6 b6 L6
    go_wp2_with fail
    generalize World.alloc w6 _ = w7 at *
    refine (HM.out w7 W7.out).mono ?_
    rintro e w8 ⟨rfl, hb8⟩
    have k0 : w8.cell? ⟨w2.heap.size, 0, none⟩ = some (.int .i64 c) := by rw [(bcell hb8).1 _ _ z7]; exact g0
    have k1 : w8.cell? ⟨w2.heap.size, 1, none⟩ = some (.string RR) := by rw [(bcell hb8).1 _ _ z7]; exact g1
    have u0 : w8.cell? ⟨w6.heap.size, 0, none⟩ = some (.int .i64 c) := by rw [(bcell hb8).1 _ _ y7]; exact v0
    have u1 : w8.cell? ⟨w6.heap.size, 1, none⟩ = some (.string RR) := by rw [(bcell hb8).1 _ _ y7]; exact v1
    have b8 := b7.trans (hb8.mono b7.size)
    clear g0 g1 x70 x71 v0 v1 y7 z7 W7 hb8 b7
    go_wp2_with fail
    go_ret
    exact ⟨rfl, b8⟩
end Go.Proofs.YtkajfocjpaemgaaDoor
