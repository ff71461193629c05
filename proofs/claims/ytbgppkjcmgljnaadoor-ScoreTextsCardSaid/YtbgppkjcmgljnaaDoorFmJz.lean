/- strconv.fmtEFG: the text without an exponent. -/
import Derived.Test.YtbgppkjcmgljnaaDoorFmI
namespace Go.Proofs.YtbgppkjcmgljnaaDoor
open Go.RowKit

set_option maxRecDepth 100000 in
set_option maxHeartbeats 4000000 in
theorem efgFz (B b : Nat) (g : Nat → UInt8) (w0 : World) (neg : Bool) (v : Value) (w : World) (hO : OwnB B b 0 g w0 v [] w) :
    Calls Tryd.prog 43 #[v, .bool neg, .slice (some ⟨b, 0, none⟩) 32 32, .int .i64 0, .int .i64 0, .int .i64 0, .int .u8 103, .bool true] w fun e w' =>
      ∃ v', e = .returned v' ∧ OwnB B b 0 g w0 v' ((sgnL neg ++ [48]) ++ fracN 0 0 g) w' := by
  have HO := Lib.hid hO
  clear hO
  go_enter Tryd.func43, Tryd.ntmps43
  go_upto_if 178 with fail
  go_cut [0] (fun s0 wx => OwnB B b 0 g w0 s0 (sgnL neg) wx)
  case first =>
    cases neg
    · go_wp2_with fail
      go_meet
      exact HO.out
    · go_wp2_with (at_builtin; refine wpList_app1 rfl _ _ rfl rfl rfl HO.out (by decide) (by decide) ?_)
      intro v1 w1 h1
      go_wp2_with fail
      go_meet
      exact h1
  case rest =>
  have HO1 := Lib.hid hcut
  clear hcut HO
  have hl1 := sgnL_len neg
  go_wp2_with (at_builtin; refine wpList_app1 rfl _ _ rfl rfl rfl HO1.out (by decide) (by omega) ?_)
  intro v2 w2 h2
  have HO2 := Lib.hid h2
  clear h2 HO1
  go_wp2_with fail
  go_ret
  exact ⟨_, rfl, by have h9 := HO2.out; unfold fracN; rw [if_pos (by rfl)]; simpa using h9⟩
end Go.Proofs.YtbgppkjcmgljnaaDoor
