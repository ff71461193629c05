/- The walks of the statements StartRequests, StartCodes. -/
import Derived.Test.YtkajfocjpaemgaaDoorStH
import Derived.Test.YtkajfocjpaemgaaDoorStI
namespace Go.Proofs.YtkajfocjpaemgaaDoor
open Go.RowKit

theorem self_strS (T : ByteArray) : (T.toList == T.toList) = true := by simp
theorem reqLine_of {l : List UInt8} {m t : List UInt8} (h : l = m ++ 32 :: (t ++ sfxL)) : reqLine (m, t) = l ++ [13, 10] := by
  rw [h]; simp [reqLine, verL, sfxL]
set_option maxRecDepth 100000 in
set_option maxHeartbeats 4000000 in
theorem lawStartRequests (s : ByteArray) (w : World) (hw : LaidS w) :
    Calls Tryd.prog 3 #[.string s] w fun e w' => e = .returned (.bool true) ∧ Below w.heap.size w w' := by
  have HW := Lib.hid hw
  clear hw
  go_enter Tryd.func3, Tryd.ntmps3
  go_wp2_with fail
  refine (awake7 w HW.out).mono ?_
  rintro e w1 ⟨rfl, hb1⟩
  go_wp2_with fail
  refine (cut11 s 120 _).mono ?_
  rintro e w' ⟨rfl, rfl⟩
  obtain ⟨t, ht⟩ : ∃ t, t = cutS s 120 := ⟨_, rfl⟩
  have hz : t.size ≤ 120 := by rw [ht]; exact cutS_size _ _
  rw [← ht]
  clear ht
  have W1 : Hid (LaidS w1) := HW.out.below hb1
  clear HW
  have hzl : t.data.toList.length ≤ 120 := by rw [← Lib.size_eq]; exact hz
  have H1 := Lib.hid (preq9 t (by omega) w1 W1.out.1)
  have H2 := Lib.hid (fun W => rpreq10 t (by omega) W)
  cases hp : reqP t.data.toList with
  | none =>
    have hv : reqO none = .tuple #[.agg #[.string ⟨#[]⟩, .string ⟨#[]⟩], .int .i64 2] := rfl
    rw [hp, hv] at H1
    simp only [hp, hv] at H2
    clear hv hp hz hzl
    go_wp2_with fail
    refine H1.out.mono ?_
    rintro e w2 ⟨rfl, hb2⟩
    have b2 := hb1.trans (hb2.mono hb1.size)
    go_wp2_with fail
    have L2 := below_alloc w2 (.cells #[.string ⟨#[]⟩, .string ⟨#[]⟩] 25)
    have c0 : (w2.alloc (.cells #[.string ⟨#[]⟩, .string ⟨#[]⟩] 25)).cell? ⟨w2.heap.size, 0, none⟩ = some (.string ⟨#[]⟩) := by simp
    have c1 : (w2.alloc (.cells #[.string ⟨#[]⟩, .string ⟨#[]⟩] 25)).cell? ⟨w2.heap.size, 1, none⟩ = some (.string ⟨#[]⟩) := by simp
    have z2 : w2.heap.size < (w2.alloc (.cells #[.string ⟨#[]⟩, .string ⟨#[]⟩] 25)).heap.size := by simp
    refine (H2.out _).mono ?_
    rintro e w3 ⟨rfl, hb3⟩
    have b3 := b2.trans ((L2.trans (hb3.mono L2.size)).mono b2.size)
    have d0 : (w3.alloc (.cells #[.string ⟨#[]⟩, .string ⟨#[]⟩] 29)).cell? ⟨w2.heap.size, 0, none⟩ = some (.string ⟨#[]⟩) := by
      rw [(bcell (below_alloc _ _)).1 _ _ (Nat.lt_of_lt_of_le z2 hb3.size), (bcell hb3).1 _ _ z2]; exact c0
    have d1 : (w3.alloc (.cells #[.string ⟨#[]⟩, .string ⟨#[]⟩] 29)).cell? ⟨w2.heap.size, 1, none⟩ = some (.string ⟨#[]⟩) := by
      rw [(bcell (below_alloc _ _)).1 _ _ (Nat.lt_of_lt_of_le z2 hb3.size), (bcell hb3).1 _ _ z2]; exact c1
    clear c0 c1 L2 z2 hb3
    have se := self_strS ⟨#[]⟩
    go_wp2_with fail
    go_ret
    exact ⟨rfl, b3.trans ((below_alloc w3 _).mono b3.size)⟩
  | some f =>
    obtain ⟨m, u⟩ := f
    obtain ⟨hl, hm, hu⟩ := req_some hp
    simp only at hl hm hu
    have hlen : t.data.toList.length = m.length + u.length + 10 := by rw [hl]; simp [sfxL]; omega
    have hml : m.length ≤ 120 := by omega
    have hul : u.length ≤ 120 := by omega
    have hv : reqO (some (m, u)) = .tuple #[.agg #[.string (bs m), .string (bs u)], .int .i64 0] := rfl
    rw [hp, hv] at H1
    simp only [hp, hv] at H2
    have hrl : reqLine (m, u) = t.data.toList ++ [13, 10] := reqLine_of hl
    have HL : Hid (∀ W, Calls Tryd.prog 11 #[.agg #[.string (bs m), .string (bs u)]] W fun e w' => e = .returned (.string (bs (t.data.toList ++ [13, 10]))) ∧ Below W.heap.size W w') := fun W => by
      have h := rline11 m u (by omega) (by omega) W
      rwa [hrl] at h
    have HC : Hid (∀ W, Calls Tryd.prog 12 #[.agg #[.string (bs m), .string (bs u)]] W fun e w' => e = .returned (.int .i64 0) ∧ Below W.heap.size W w') := fun W => check12 m u (by omega) (by omega) 0 (by rw [if_pos ⟨hm, hu⟩]) W
    have A1 := fun W => add_str t.data.toList [13, 10] (by simp; omega) W
    have e13 : bs [13, 10] = ⟨#[13, 10]⟩ := rfl
    rw [e13, bs_of] at A1
    generalize bs (t.data.toList ++ [13, 10]) = TL at *
    have eM := self_strS (bs m)
    have eU := self_strS (bs u)
    have eT := self_strS TL
    generalize bs m = M at *
    generalize bs u = U at *
    clear hv hp hz hzl hm hu hl hlen hml hul hrl e13
    go_wp2_with fail
    refine H1.out.mono ?_
    rintro e w2 ⟨rfl, hb2⟩
    have b2 := hb1.trans (hb2.mono hb1.size)
    go_wp2_with fail
    have L2 := below_alloc w2 (.cells #[.string M, .string U] 25)
    have c0 : (w2.alloc (.cells #[.string M, .string U] 25)).cell? ⟨w2.heap.size, 0, none⟩ = some (.string M) := by simp
    have c1 : (w2.alloc (.cells #[.string M, .string U] 25)).cell? ⟨w2.heap.size, 1, none⟩ = some (.string U) := by simp
    have z2 : w2.heap.size < (w2.alloc (.cells #[.string M, .string U] 25)).heap.size := by simp
    refine (H2.out _).mono ?_
    rintro e w3 ⟨rfl, hb3⟩
    have b3 := b2.trans ((L2.trans (hb3.mono L2.size)).mono b2.size)
    have L3 := below_alloc w3 (.cells #[.string M, .string U] 29)
    have d0 : (w3.alloc (.cells #[.string M, .string U] 29)).cell? ⟨w2.heap.size, 0, none⟩ = some (.string M) := by
      rw [(bcell L3).1 _ _ (Nat.lt_of_lt_of_le z2 hb3.size), (bcell hb3).1 _ _ z2]; exact c0
    have d1 : (w3.alloc (.cells #[.string M, .string U] 29)).cell? ⟨w2.heap.size, 1, none⟩ = some (.string U) := by
      rw [(bcell L3).1 _ _ (Nat.lt_of_lt_of_le z2 hb3.size), (bcell hb3).1 _ _ z2]; exact c1
    have z3 : w2.heap.size < (w3.alloc (.cells #[.string M, .string U] 29)).heap.size := Nat.lt_of_lt_of_le (Nat.lt_of_lt_of_le z2 hb3.size) L3.size
    have b4 := b3.trans (L3.mono b3.size)
    clear c0 c1 L2 z2 hb3 W1 b2 b3 L3
    go_wp2_with fail
    generalize World.alloc w3 _ = w4 at *
    refine (HL.out _).mono ?_
    rintro e w5 ⟨rfl, hb5⟩
    have e0 : w5.cell? ⟨w2.heap.size, 0, none⟩ = some (.string M) := by rw [(bcell hb5).1 _ _ z3]; exact d0
    have e1 : w5.cell? ⟨w2.heap.size, 1, none⟩ = some (.string U) := by rw [(bcell hb5).1 _ _ z3]; exact d1
    have b5 := b4.trans (hb5.mono b4.size)
    clear d0 d1 z3 hb5 b4
    go_wp2_with fail
    refine (HC.out w5).mono ?_
    rintro e w6 ⟨rfl, hb6⟩
    have b6 := b5.trans (hb6.mono b5.size)
    go_wp2_with fail
    go_ret
    exact ⟨rfl, b6⟩
set_option maxRecDepth 100000 in
set_option maxHeartbeats 4000000 in
theorem lawStartCodes (s : ByteArray) (c : Int) (w : World) (hw : LaidS w) :
    Calls Tryd.prog 6 #[.string s, .int .i64 c] w fun e w' => e = .returned (.bool true) ∧ Below w.heap.size w w' := by
  have HW := Lib.hid hw
  clear hw
  go_enter Tryd.func6, Tryd.ntmps6
  go_wp2_with fail
  refine (awake7 w HW.out).mono ?_
  rintro e w1 ⟨rfl, hb1⟩
  go_wp2_with fail
  refine (cut11 s 20 _).mono ?_
  rintro e w' ⟨rfl, rfl⟩
  obtain ⟨m, hm⟩ : ∃ m, m = (cutS s 20).data.toList := ⟨_, rfl⟩
  have ht : cutS s 20 = bs m := by rw [hm, bs_of]
  rw [ht]
  clear ht hm
  have W1 : Hid (LaidS w1) := HW.out.below hb1
  clear HW
  obtain ⟨q1, h1⟩ : ∃ q, decide (m = [72, 69, 65, 68]) = q := ⟨_, rfl⟩
  obtain ⟨q2, h2⟩ : ∃ q, decide (c = 204) = q := ⟨_, rfl⟩
  obtain ⟨q3, h3⟩ : ∃ q, decide (c = 304) = q := ⟨_, rfl⟩
  have HA := Lib.hid (reason22 c w1 W1.out.2.2.2)
  have HB := Lib.hid (fun W => rreason23 c W)
  have HC := Lib.hid (fun W => bodied24 m c q1 q2 q3 h1 h2 h3 W)
  have HD := Lib.hid (fun W => rbodied25 m c q1 q2 q3 h1 h2 h3 W)
  clear h1 h2 h3 W1
  have eT := self_strS (bs (reasonL c))
  generalize bs (reasonL c) = T at *
  generalize bs m = M at *
  generalize (!(q1 || q2 || q3)) = q at *
  have eq : (q == q) = true := by simp
  go_wp2_with fail
  refine HA.out.mono ?_
  rintro e w2 ⟨rfl, hb2⟩
  go_wp2_with fail
  refine (HB.out _).mono ?_
  rintro e w' ⟨rfl, rfl⟩
  go_wp2_with fail
  refine (HC.out _).mono ?_
  rintro e w' ⟨rfl, rfl⟩
  go_wp2_with fail
  refine (HD.out _).mono ?_
  rintro e w' ⟨rfl, rfl⟩
  go_wp2_with fail
  go_ret
  exact ⟨by first | rfl | simp, hb1.trans (hb2.mono hb1.size)⟩
end Go.Proofs.YtkajfocjpaemgaaDoor
