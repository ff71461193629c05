/- strconv.fmtEFG: the text with an exponent. -/
import Derived.Test.YtbgppkjcmgljnaaDoorFmN
namespace Go.Proofs.YtbgppkjcmgljnaaDoor
open Go.RowKit

set_option maxRecDepth 100000 in
set_option maxHeartbeats 4000000 in
theorem efgEbf0 (B b : Nat) (g : Nat → UInt8) (w0 : World) (dp : Int) (v : Value) (w : World) (hO : OwnB B b 0 g w0 v [] w) (hd0 : -450 ≤ dp) (hd1 : dp ≤ 450) (hE : 7 ≤ dp) :
    Calls Tryd.prog 43 #[v, .bool false, .slice (some ⟨b, 0, none⟩) 32 32, .int .i64 dp, .int .i64 0, .int .i64 0, .int .u8 103, .bool true] w fun e w' =>
      ∃ v', e = .returned v' ∧ OwnB B b 0 g w0 v' (([] ++ [48] ++ [101] ++ [43]) ++ [48, 48]) w' := by
  have HO := Lib.hid hO
  clear hO
  have t1 : ¬ dp - 1 < -4 := by omega
  have t2 : 6 ≤ dp - 1 := by omega
  have t3 : ¬ dp - 1 < 0 := by omega
  go_enter Tryd.func43, Tryd.ntmps43
  go_wp2_with (at_builtin; refine wpList_app1 rfl _ _ rfl rfl rfl HO.out (by decide) (by simp) ?_)
  intro v1 w1 h1
  have HO1 := Lib.hid h1
  clear h1 HO
  go_wp2_with (at_builtin; refine wpList_app1 rfl _ _ rfl rfl rfl HO1.out (by decide) (by simp) ?_)
  intro v5 w5 h5
  have HO5 := Lib.hid h5
  clear h5 HO1
  go_wp2_with (at_builtin; refine wpList_app1 rfl _ _ rfl rfl rfl HO5.out (by decide) (by simp) ?_)
  intro v6 w6 h6
  have HO6 := Lib.hid h6
  clear h6 HO5
  go_wp2_with (at_builtin; refine wpList_app2 rfl _ _ rfl rfl rfl HO6.out (by decide) (by decide) (by simp) ?_)
  intro v8 w8 h8
  go_wp2_with fail
  go_ret
  exact ⟨_, rfl, by simpa using h8⟩
end Go.Proofs.YtbgppkjcmgljnaaDoor
