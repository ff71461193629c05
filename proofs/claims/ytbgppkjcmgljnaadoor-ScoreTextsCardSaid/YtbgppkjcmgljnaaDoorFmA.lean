/- strconv's shortest digits: the small functions. -/
import Derived.Test.YtbgppkjcmgljnaaDoorFlC
import Derived.Test.YtbgppkjcmgljnaaDoorShelfM
namespace Go.Proofs.YtbgppkjcmgljnaaDoor
open Go.RowKit

theorem l10_48 (x : Int) (h0 : -3000 ≤ x) (h1 : x ≤ 3000) (w : World) : Calls Tryd.prog 48 #[.int .i64 x] w fun e w' => e = .returned (.int .i64 (x * 78913 / 262144)) ∧ w' = w := by
  go_enter Tryd.func48, Tryd.ntmps48
  go_wp2
  go_ret
  refine ⟨?_, rfl⟩
  (congr 2) <;> omega
theorem skew57 (x : Int) (h0 : -3000 ≤ x) (h1 : x ≤ 3000) (w : World) : Calls Tryd.prog 57 #[.int .i64 x] w fun e w' => e = .returned (.int .i64 ((x * 631305 - 261663) / 2097152)) ∧ w' = w := by
  go_enter Tryd.func57, Tryd.ntmps57
  go_wp2
  go_ret
  refine ⟨?_, rfl⟩
  (congr 2) <;> omega
theorem l2_59 (x : Int) (h0 : -3000 ≤ x) (h1 : x ≤ 3000) (w : World) : Calls Tryd.prog 59 #[.int .i64 x] w fun e w' => e = .returned (.int .i64 (x * 108853 / 32768)) ∧ w' = w := by
  go_enter Tryd.func59, Tryd.ntmps59
  go_wp2
  go_ret
  refine ⟨?_, rfl⟩
  (congr 2) <;> omega
theorem b2u78 (q : Bool) (w : World) : Calls Tryd.prog 78 #[.bool q] w fun e w' => e = .returned (.int .u64 (if q then 1 else 0)) ∧ w' = w := by
  cases q <;> (
  go_enter Tryd.func78, Tryd.ntmps78
  go_wp2
  go_ret
  exact ⟨rfl, rfl⟩)
/-- unrounded's methods, as they come. -/
theorem nudge61 (u z : Int) (w : World) : Calls Tryd.prog 61 #[.int .u64 u, .int .i64 z] w fun e w' => e = .returned (.int .u64 (IntKind.u64.wrap (u + IntKind.u64.wrap z))) ∧ w' = w := by
  go_enter Tryd.func61, Tryd.ntmps61
  go_wp2
  go_ret
  exact ⟨rfl, rfl⟩
theorem ceil62 (u : Int) (w : World) : Calls Tryd.prog 62 #[.int .u64 u] w fun e w' => e = .returned (.int .u64 (IntKind.u64.wrap (u + 3) / 4)) ∧ w' = w := by
  go_enter Tryd.func62, Tryd.ntmps62
  go_wp2
  go_ret
  exact ⟨rfl, rfl⟩
theorem floor63 (u : Int) (w : World) : Calls Tryd.prog 63 #[.int .u64 u] w fun e w' => e = .returned (.int .u64 (IntKind.u64.wrap u / 4)) ∧ w' = w := by
  go_enter Tryd.func63, Tryd.ntmps63
  go_wp2
  go_ret
  exact ⟨rfl, rfl⟩
theorem round64 (u : Int) (w : World) : Calls Tryd.prog 64 #[.int .u64 u] w fun e w' => e = .returned (.int .u64 (IntKind.u64.wrap (IntKind.u64.wrap (u + 1) + bits .and .u64 (u / 4) 1) / 4)) ∧ w' = w := by
  go_enter Tryd.func64, Tryd.ntmps64
  go_wp2
  go_ret
  exact ⟨rfl, rfl⟩
end Go.Proofs.YtbgppkjcmgljnaaDoor
