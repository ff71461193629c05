/- The contracts of the rotations: math/bits.RotateLeft64 and the reference's turn. -/
import Derived.Test.YtlcpkplipfcdaaaDoorBase
namespace Go.Proofs.YtlcpkplipfcdaaaDoor
open Go.RowKit

/-- A word turned left by so many bits, as Go computes it. -/
def rotl (a k : Int) : Int := bits .or .u64 (IntKind.u64.wrap (a * 2 ^ k.toNat)) (a / 2 ^ (64 - k).toNat)

set_option maxHeartbeats 400000 in
theorem rotl64 (a : Int) (k : Int) (h0 : 0 < k) (h1 : k < 64) (w : World) :
    Calls Tryd.prog 135 #[.int .u64 a, .int .i64 k] w fun e w' => e = .returned (.int .u64 (rotl a k)) ∧ w = w' := by
  have hb : bits .and .u64 k 63 = k := by
    rw [u64_and _ _ (by omega) (by omega) (by omega) (by omega), show (63 : Int).toNat = 63 from rfl, nat_mask6, Nat.mod_eq_of_lt (by omega)]; omega
  go_enter Tryd.func135, Tryd.ntmps135
  go_wp2
  go_ret
  exact ⟨rfl, rfl⟩

set_option maxHeartbeats 400000 in
theorem turn64 (a : Int) (k : Int) (h0 : 0 < k) (h1 : k < 64) (w : World) :
    Calls Tryd.prog 89 #[.int .u64 a, .int .i64 k] w fun e w' => e = .returned (.int .u64 (rotl a k)) ∧ ∃ n, w' = w.drewN n := by
  go_enter Tryd.func89, Tryd.ntmps89
  go_wp2
  go_quiet (fail)
  go_wp2
  go_ret
  exact ⟨rfl, _, rfl⟩
end Go.Proofs.YtlcpkplipfcdaaaDoor
