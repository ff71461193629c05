/- strconv.fmtEFG: the text with an exponent. -/
import Derived.Test.YtbgppkjcmgljnaaDoorFmN
namespace Go.Proofs.YtbgppkjcmgljnaaDoor
open Go.RowKit

set_option maxRecDepth 100000 in
set_option maxHeartbeats 4000000 in
theorem efgEaf1 (B b : Nat) (g : Nat → UInt8) (w0 : World) (n : Nat) (v : Value) (w : World) (hO : OwnB B b 1 g w0 v [] w) (hd1 : n ≤ 451) (hE : 4 < n) :
    Calls Tryd.prog 43 #[v, .bool false, .slice (some ⟨b, 0, none⟩) 32 32, .int .i64 (1 - (n : Int)), .int .i64 1, .int .i64 1, .int .u8 103, .bool true] w fun e w' =>
      ∃ v', e = .returned v' ∧ OwnB B b 1 g w0 v' (([] ++ [g 0] ++ [101] ++ [45]) ++ expZ ((n : Int))) w' := by
  have c0 := (hO.row 0 (by omega)).1
  have g0 : 0 ≤ ((g 0).toNat : Int) ∧ ((g 0).toNat : Int) < 256 := by have := (g 0).toNat_lt; omega
  have HO := Lib.hid hO
  clear hO
  have E : 1 - (n : Int) - 1 = -(n : Int) := by omega
  have t1 : -(n : Int) < -4 := by omega
  have t3 : -(n : Int) < 0 := by omega
  go_enter Tryd.func43, Tryd.ntmps43
  go_wp2_with (at_builtin; refine wpList_app1 rfl _ _ rfl rfl rfl HO.out g0 (by simp) ?_)
  intro v1 w1 h1
  have HO1 := Lib.hid h1
  clear h1 HO
  clear c0 g0
  go_wp2_with (at_builtin; refine wpList_app1 rfl _ _ rfl rfl rfl HO1.out (by decide) (by simp) ?_)
  intro v5 w5 h5
  have HO5 := Lib.hid h5
  clear h5 HO1
  go_wp2_with (at_builtin; refine wpList_app1 rfl _ _ rfl rfl rfl HO5.out (by decide) (by simp) ?_)
  intro v6 w6 h6
  have HO6 := Lib.hid h6
  clear h6 HO5
  by_cases q1 : (n : Int) < 10
  · have e0 : Hid (expZ ((n : Int)) = _) := expZ_1 (by omega)
    go_wp2_with (at_builtin; refine wpList_app2 rfl _ _ rfl rfl rfl HO6.out (by decide) (by omega) (by simp) ?_)
    intro v8 w8 h8
    go_wp2_with fail
    go_ret
    exact ⟨_, rfl, by rw [e0.out]; simpa using h8⟩
  · by_cases q2 : (n : Int) < 100
    · have e0 : Hid (expZ ((n : Int)) = _) := expZ_2 (by omega) (by omega)
      go_wp2_with (at_builtin; refine wpList_app2 rfl _ _ rfl rfl rfl HO6.out (by omega) (by omega) (by simp) ?_)
      intro v8 w8 h8
      go_wp2_with fail
      go_ret
      exact ⟨_, rfl, by rw [e0.out]; simpa using h8⟩
    · have e0 : Hid (expZ ((n : Int)) = _) := expZ_3 (by omega) (by omega)
      go_wp2_with (at_builtin; refine wpList_app3 rfl _ _ rfl rfl rfl HO6.out (by omega) (by omega) (by omega) (by simp) ?_)
      intro v8 w8 h8
      go_wp2_with fail
      go_ret
      exact ⟨_, rfl, by rw [e0.out]; simpa using h8⟩
end Go.Proofs.YtbgppkjcmgljnaaDoor
