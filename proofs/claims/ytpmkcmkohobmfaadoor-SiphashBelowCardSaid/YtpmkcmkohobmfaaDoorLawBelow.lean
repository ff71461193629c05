/- The walk of the statement SiphashBelow. -/
import Derived.Test.YtpmkcmkohobmfaaDoorAwakeA
namespace Go.Proofs.YtpmkcmkohobmfaaDoor
open Go.RowKit

set_option maxHeartbeats 400000 in
theorem law5_no (x y n : Int) (hn : n < 1) (w : World) (hi : Ini w) :
    Calls Tryd.prog 5 #[.int .u64 x, .int .u64 y, .int .i64 n] w fun e w' => e = .returned (.bool true) ∧ Below w.heap.size w w' := by
  have hA := awake10 w hi
  have HA := Lib.hid hA
  clear hA hi
  go_enter Tryd.func5, Tryd.ntmps5
  go_wp2_with fail
  refine HA.out.mono ?_
  rintro e w1 ⟨rfl, hb⟩
  go_wp2_with (go_at_call 15; refine (below15_no _ _ hn _).mono ?_; rintro e w' ⟨rfl, rfl⟩)
  go_ret
  exact ⟨rfl, hb⟩

set_option maxHeartbeats 400000 in
theorem law5_yes (x y n : Nat) (hx : x < 18446744073709551616) (hy : y < 18446744073709551616) (hn : 0 < n) (hm : n ≤ 9223372036854775807) (w : World) (hi : Ini w) :
    Calls Tryd.prog 5 #[.int .u64 x, .int .u64 y, .int .i64 n] w fun e w' => e = .returned (.bool true) ∧ Below w.heap.size w w' := by
  have hA := awake10 w hi
  have hX := fun w => below15 x n hx hn hm w
  have hY := fun w => below15 y n hy hn hm w
  have hR := fun w => below16 x n hx hn hm w
  have h0 : 0 ≤ belowN x n := by unfold belowN; omega
  have h1 : belowN x n < n := by have := belowN_lt x n hx hn; unfold belowN; omega
  have h2 : x ≤ y → belowN x n ≤ belowN y n := belowN_mono x y n
  generalize belowN x n = a at *
  generalize belowN y n = b at *
  have HA := Lib.hid hA
  have HX := Lib.hid hX
  have HY := Lib.hid hY
  have HR := Lib.hid hR
  clear hA hi hX hY hR
  have ha : (a == a) = true := beq_self_eq_true a
  by_cases hxy : x ≤ y
  · have hab := h2 hxy
    have hxy' : (x : Int) ≤ y := by omega
    clear h2
    go_enter Tryd.func5, Tryd.ntmps5
    go_wp2_with fail
    refine HA.out.mono ?_
    rintro e w1 ⟨rfl, hb⟩
    go_wp2_with fail
    refine (HX.out _).mono ?_
    rintro e w' ⟨rfl, rfl⟩
    go_wp2_with fail
    refine (HY.out _).mono ?_
    rintro e w' ⟨rfl, rfl⟩
    go_wp2_with fail
    refine (HR.out _).mono ?_
    rintro e w' ⟨rfl, rfl⟩
    go_wp2_with fail
    go_ret
    exact ⟨rfl, hb⟩
  · have hxy' : (y : Int) < x := by omega
    clear h2
    go_enter Tryd.func5, Tryd.ntmps5
    go_wp2_with fail
    refine HA.out.mono ?_
    rintro e w1 ⟨rfl, hb⟩
    go_wp2_with fail
    refine (HX.out _).mono ?_
    rintro e w' ⟨rfl, rfl⟩
    go_wp2_with fail
    refine (HY.out _).mono ?_
    rintro e w' ⟨rfl, rfl⟩
    go_wp2_with fail
    refine (HR.out _).mono ?_
    rintro e w' ⟨rfl, rfl⟩
    go_wp2_with fail
    go_ret
    exact ⟨rfl, hb⟩
end Go.Proofs.YtpmkcmkohobmfaaDoor
