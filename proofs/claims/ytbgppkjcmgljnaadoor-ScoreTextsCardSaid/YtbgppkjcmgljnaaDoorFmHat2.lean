/- strconv.fmtEFG: the text with an exponent. -/
import Derived.Test.YtbgppkjcmgljnaaDoorFmN
namespace Go.Proofs.YtbgppkjcmgljnaaDoor
open Go.RowKit

set_option maxRecDepth 100000 in
set_option maxHeartbeats 4000000 in
theorem efgEat2 (B b : Nat) (nz : Nat) (g : Nat → UInt8) (w0 : World) (n : Nat) (v : Value) (w : World) (hO : OwnB B b nz g w0 v [] w) (hn : nz ≤ 20) (hn2 : 2 ≤ nz) (hd1 : n ≤ 451) (hE : 4 < n) :
    Calls Tryd.prog 43 #[v, .bool true, .slice (some ⟨b, 0, none⟩) 32 32, .int .i64 (1 - (n : Int)), .int .i64 (nz : Int), .int .i64 (nz : Int), .int .u8 103, .bool true] w fun e w' =>
      ∃ v', e = .returned v' ∧ OwnB B b nz g w0 v' (([45] ++ [g 0] ++ [46] ++ ((List.range (nz - 1)).map fun t => g (1 + t)) ++ [101] ++ [45]) ++ expZ ((n : Int))) w' := by
  have g0 : 0 ≤ ((g 0).toNat : Int) ∧ ((g 0).toNat : Int) < 256 := by have := (g 0).toNat_lt; omega
  have HO := Lib.hid hO
  clear hO
  have E : 1 - (n : Int) - 1 = -(n : Int) := by omega
  have t1 : -(n : Int) < -4 := by omega
  have t3 : -(n : Int) < 0 := by omega
  have t0 : ¬ (nz : Int) = 0 := by omega
  have t4 : (0 : Int) < (nz : Int) - 1 := by omega
  have t5 : (1 : Int) < (nz : Int) := by omega
  have t6 : ¬ (0 : Int) < (nz : Int) - 1 + 1 - (nz : Int) := by omega
  go_enter Tryd.func43, Tryd.ntmps43
  go_wp2_with (at_builtin; refine wpList_app1 rfl _ _ rfl rfl rfl HO.out (by decide) (by simp) ?_)
  intro v0 w0 h0
  have HO0 := Lib.hid h0
  clear h0 HO
  have c0 := (HO0.out.row 0 (by omega)).1
  go_wp2_with (at_builtin; refine wpList_app1 rfl _ _ rfl rfl rfl HO0.out g0 (by simp) ?_)
  intro v1 w1 h1
  have HO1 := Lib.hid h1
  clear h1 HO0
  clear c0 g0
  go_wp2_with (at_builtin; refine wpList_app1 rfl _ _ rfl rfl rfl HO1.out (by decide) (by simp) ?_)
  intro v2 w2 h2
  have HO2 := Lib.hid h2
  clear h2 HO1
  go_wp2_with (at_builtin; refine wpList_appS rfl _ _ rfl 1 (nz - 1) 31 rfl ?_ HO2.out (by omega) (by omega) (by simp) ?_)
  · rfl
  intro v4 w4 h4
  have HO4 := Lib.hid h4
  clear h4 HO2
  go_wp2_with fail
  go_loopw [0, 114] (fun s0 i wr => i = .int .i64 0 ∧ s0 = v4 ∧ wr = w4) (fun _ i _ => 1 - (intOf i).toNat)
  case atStart => exact ⟨rfl, rfl, rfl⟩
  case round =>
    obtain ⟨rfl, rfl, rfl⟩ := hrel
    go_wp2_with (at_builtin; refine wpList_app1 rfl _ _ rfl rfl rfl HO4.out (by decide) (by simp <;> omega) ?_)
    intro v5 w5 h5
    have HO5 := Lib.hid h5
    clear h5 HO4
    go_wp2_with (at_builtin; refine wpList_app1 rfl _ _ rfl rfl rfl HO5.out (by decide) (by simp <;> omega) ?_)
    intro v6 w6 h6
    have HO6 := Lib.hid h6
    clear h6 HO5
    by_cases q1 : (n : Int) < 10
    · have e0 : Hid (expZ ((n : Int)) = _) := expZ_1 (by omega)
      go_wp2_with (at_builtin; refine wpList_app2 rfl _ _ rfl rfl rfl HO6.out (by decide) (by omega) (by simp <;> omega) ?_)
      intro v8 w8 h8
      go_wp2_with fail
      go_ret
      exact ⟨_, rfl, by rw [e0.out]; simpa using h8⟩
    · by_cases q2 : (n : Int) < 100
      · have e0 : Hid (expZ ((n : Int)) = _) := expZ_2 (by omega) (by omega)
        go_wp2_with (at_builtin; refine wpList_app2 rfl _ _ rfl rfl rfl HO6.out (by omega) (by omega) (by simp <;> omega) ?_)
        intro v8 w8 h8
        go_wp2_with fail
        go_ret
        exact ⟨_, rfl, by rw [e0.out]; simpa using h8⟩
      · have e0 : Hid (expZ ((n : Int)) = _) := expZ_3 (by omega) (by omega)
        go_wp2_with (at_builtin; refine wpList_app3 rfl _ _ rfl rfl rfl HO6.out (by omega) (by omega) (by omega) (by simp <;> omega) ?_)
        intro v8 w8 h8
        go_wp2_with fail
        go_ret
        exact ⟨_, rfl, by rw [e0.out]; simpa using h8⟩
end Go.Proofs.YtbgppkjcmgljnaaDoor
