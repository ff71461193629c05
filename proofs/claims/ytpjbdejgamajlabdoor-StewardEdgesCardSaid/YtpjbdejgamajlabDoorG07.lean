/- strconv.fmtEFG: the text without an exponent. -/
import Derived.Test.YtpjbdejgamajlabDoorG06
namespace Go.Proofs.YtpjbdejgamajlabDoor
open Go.RowKit

set_option maxRecDepth 100000 in
set_option maxHeartbeats 4000000 in
theorem efgFpa (B b nz : Nat) (g : Nat → UInt8) (w0 : World) (neg : Bool) (p : Nat) (v : Value) (w : World) (hO : OwnB B b nz g w0 v [] w) (hn : nz ≤ 20) (hp : p ≤ 6) (hp0 : 1 ≤ p) (hc : nz ≤ p) :
    Calls Tryd.prog 93 #[v, .bool neg, .slice (some ⟨b, 0, none⟩) 32 32, .int .i64 (p : Int), .int .i64 (nz : Int), .int .i64 (nz : Int), .int .u8 103, .bool true] w fun e w' =>
      ∃ v', e = .returned v' ∧ OwnB B b nz g w0 v' ((sgnL neg ++ intP nz p g) ++ fracP nz p g) w' := by
  have HO := Lib.hid hO
  clear hO
  have t0 : ¬ (p : Int) - 1 < -4 := by omega
  have t0b : ¬ 6 ≤ (p : Int) - 1 := by omega
  have t0c : ¬ (p : Int) < (nz : Int) := by omega
  have t2 : 0 < (p : Int) := by omega
  have hn0 : 0 ≤ (nz : Int) := Int.natCast_nonneg _
  go_enter Tryd.func93, Tryd.ntmps93
  go_upto_if 178 with fail
  go_cut [0] (fun s0 wx => OwnB B b nz g w0 s0 (sgnL neg) wx)
  case first =>
    cases neg
    · go_wp2_with fail
      go_meet
      exact HO.out
    · go_wp2_with (at_builtin; refine wpList_app1 rfl _ _ rfl rfl rfl HO.out (by decide) (by decide) ?_)
      intro v1 w1 h1
      go_wp2_with fail
      go_meet
      exact h1
  case rest =>
  have HO1 := Lib.hid hcut
  clear hcut HO
  have hl1 := sgnL_len neg
  have E1 : max ((nz : Int) - (p : Int)) 0 = 0 := by omega
  have E2 : min (nz : Int) (p : Int) = (nz : Int) := by omega
  go_wp2_with fail
  go_loopw [0, 25, 191] (fun s0 _ iv wr => ∃ j : Nat, j ≤ nz ∧ iv = .int .i64 (j : Int) ∧ Hid (OwnB B b nz g w0 s0 (sgnL neg ++ rowL g 0 j) wr)) (fun _ _ iv _ => nz - (intOf iv).toNat)
  case atStart => exact ⟨0, Nat.zero_le _, rfl, Lib.hid (by rw [rowL_zero, List.append_nil]; exact HO1.out)⟩
  case round =>
    obtain ⟨j, hj, rfl, ho⟩ := hrel
    by_cases hjm : j < nz
    · have t1 : (j : Int) < (nz : Int) := by omega
      have cj : wr.cell? ⟨b, j, none⟩ = some (.int .u8 ((g (j)).toNat : Int)) := (ho.out.row (j) (by omega)).1
      have gb : 0 ≤ ((g (j)).toNat : Int) ∧ ((g (j)).toNat : Int) < 256 := by have := (g (j)).toNat_lt; omega
      go_wp2_with (at_builtin; refine wpList_app1 rfl _ _ rfl rfl rfl ho.out gb (by simp [rowL_len]; omega) ?_)
      intro v' w' h'
      have h2 := Lib.hid (OwnB.rowS (X := sgnL neg) (o := 0) (j := j) h' (by simp))
      clear h' ho cj gb
      go_wp2_with fail
      go_roundw
      case rel => exact ⟨j + 1, by omega, by go_num, h2⟩
      case measure => simp [intOf] <;> omega
    · have hjc : j = nz := by omega
      have t1 : ¬ (j : Int) < (nz : Int) := by omega
      rw [hjc] at ho
      clear hjc
      go_wp2_with fail
      go_loopw [0, 203] (fun s0 iv wr => ∃ j : Nat, j ≤ (p - nz) ∧ iv = .int .i64 (j : Int) ∧ Hid (OwnB B b nz g w0 s0 ((sgnL neg ++ rowL g 0 nz) ++ zerL j) wr)) (fun _ iv _ => (p - nz) - (intOf iv).toNat)
      case atStart => exact ⟨0, Nat.zero_le _, rfl, Lib.hid (by rw [zerL_zero, List.append_nil]; exact ho.out)⟩
      case round =>
        obtain ⟨j, hj, rfl, ho⟩ := hrel
        by_cases hjm : j < (p - nz)
        · have t1 : (j : Int) < (p : Int) - (nz : Int) := by omega
          go_wp2_with (at_builtin; refine wpList_app1 rfl _ _ rfl rfl rfl ho.out (by decide) (by simp [rowL_len, zerL_len]; omega) ?_)
          intro v' w' h'
          have h2 := Lib.hid (OwnB.zerS (X := (sgnL neg ++ rowL g 0 nz)) (j := j) h' (by simp))
          clear h' ho
          go_wp2_with fail
          go_roundw
          case rel => exact ⟨j + 1, by omega, by go_num, h2⟩
          case measure => simp [intOf] <;> omega
        · have hjc : j = (p - nz) := by omega
          have t1 : ¬ (j : Int) < (p : Int) - (nz : Int) := by omega
          rw [hjc] at ho
          clear hjc
          go_wp2_with fail
          go_ret
          exact ⟨_, rfl, by have h9 := ho.out; unfold intP fracP; rw [if_pos hc, if_pos hc, List.append_nil, ← List.append_assoc]; exact h9⟩
end Go.Proofs.YtpjbdejgamajlabDoor

