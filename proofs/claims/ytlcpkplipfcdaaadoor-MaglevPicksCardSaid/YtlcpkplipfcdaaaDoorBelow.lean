/- Below, the program's and the reference's. -/
import Derived.Test.YtlcpkplipfcdaaaDoorBase
import Derived.Test.YtlcpkplipfcdaaaDoorShelf
import Derived.IntWalk
namespace Go.Proofs.YtlcpkplipfcdaaaDoor
open Go.RowKit

/-- The number below another one. -/
def belowN (x n : Nat) : Int := ((x * n / 18446744073709551616 : Nat) : Int)
set_option maxRecDepth 100000 in
theorem belowN_lt (x n : Nat) (hx : x < 18446744073709551616) (hn : 0 < n) : x * n / 18446744073709551616 < n := by
  rw [Nat.div_lt_iff_lt_mul (by decide), Nat.mul_comm]
  exact Nat.mul_lt_mul_of_pos_left hx hn
set_option maxRecDepth 100000 in
theorem belowN_mono (x y n : Nat) (h : x ≤ y) : belowN x n ≤ belowN y n := by
  unfold belowN
  have : x * n / 18446744073709551616 ≤ y * n / 18446744073709551616 := Nat.div_le_div_right (Nat.mul_le_mul_right _ h)
  omega

set_option maxRecDepth 100000 in
theorem halves (x n : Nat) (hx : x < 18446744073709551616) (hm : n ≤ 9223372036854775807) :
    wrap64 (IntKind.u64.wrap (IntKind.u64.wrap (IntKind.u64.wrap ((x : Int) / 4294967296 * ((n : Int) / 4294967296)) +
      IntKind.u64.wrap ((IntKind.u64.wrap (IntKind.u64.wrap ((x : Int) / 4294967296 * ((n : Int) % 4294967296)) +
        IntKind.u64.wrap ((IntKind.u64.wrap ((x : Int) % 4294967296 * ((n : Int) % 4294967296))).tdiv 4294967296))).tdiv 4294967296)) +
      IntKind.u64.wrap ((IntKind.u64.wrap (IntKind.u64.wrap ((x : Int) % 4294967296 * ((n : Int) / 4294967296)) +
        (IntKind.u64.wrap (IntKind.u64.wrap ((x : Int) / 4294967296 * ((n : Int) % 4294967296)) +
          IntKind.u64.wrap ((IntKind.u64.wrap ((x : Int) % 4294967296 * ((n : Int) % 4294967296))).tdiv 4294967296))).tmod 4294967296)).tdiv 4294967296))) = belowN x n := by
  have hv : x * n = 18446744073709551616 * (x / 4294967296 * (n / 4294967296)) + 4294967296 * (x / 4294967296 * (n % 4294967296)) + 4294967296 * (x % 4294967296 * (n / 4294967296)) + x % 4294967296 * (n % 4294967296) := by
    obtain ⟨a, ha⟩ : ∃ a, a = x / 4294967296 := ⟨_, rfl⟩
    obtain ⟨b, hb⟩ : ∃ b, b = x % 4294967296 := ⟨_, rfl⟩
    obtain ⟨c, hc⟩ : ∃ c, c = n / 4294967296 := ⟨_, rfl⟩
    obtain ⟨d, hd⟩ : ∃ d, d = n % 4294967296 := ⟨_, rfl⟩
    rw [← ha, ← hb, ← hc, ← hd, show x = 4294967296 * a + b by omega, show n = 4294967296 * c + d by omega]
    rw [Nat.add_mul, Nat.mul_add, Nat.mul_add, Nat.mul_mul_mul_comm, Nat.mul_assoc 4294967296 a d, Nat.mul_left_comm b 4294967296 c]
    omega
  have ha : x / 4294967296 ≤ 4294967295 := by omega
  have hb : x % 4294967296 ≤ 4294967295 := by omega
  have hc : n / 4294967296 ≤ 2147483647 := by omega
  have hd : n % 4294967296 ≤ 4294967295 := by omega
  have hT := Nat.mul_le_mul ha hc
  have hQ := Nat.mul_le_mul ha hd
  have hR := Nat.mul_le_mul hb hc
  have hP := Nat.mul_le_mul hb hd
  rw [show (x : Int) / 4294967296 * ((n : Int) / 4294967296) = ((x / 4294967296 * (n / 4294967296) : Nat) : Int) by rw [Int.natCast_mul]; rfl,
    show (x : Int) / 4294967296 * ((n : Int) % 4294967296) = ((x / 4294967296 * (n % 4294967296) : Nat) : Int) by rw [Int.natCast_mul]; rfl,
    show (x : Int) % 4294967296 * ((n : Int) / 4294967296) = ((x % 4294967296 * (n / 4294967296) : Nat) : Int) by rw [Int.natCast_mul]; rfl,
    show (x : Int) % 4294967296 * ((n : Int) % 4294967296) = ((x % 4294967296 * (n % 4294967296) : Nat) : Int) by rw [Int.natCast_mul]; rfl]
  unfold belowN
  rw [hv]
  generalize x / 4294967296 * (n / 4294967296) = T at *
  generalize x / 4294967296 * (n % 4294967296) = Q at *
  generalize x % 4294967296 * (n / 4294967296) = R at *
  generalize x % 4294967296 * (n % 4294967296) = P at *
  clear hv
  have w0 : ∀ z : Nat, z < 18446744073709551616 → IntKind.u64.wrap (z : Int) = z := fun z hz => by rw [IntKind.wrap_u64]; omega
  have td : ∀ z : Nat, (z : Int).tdiv 4294967296 = ((z / 4294967296 : Nat) : Int) := fun z => by rw [Int.tdiv_eq_ediv_of_nonneg (by omega)]; omega
  have tm : ∀ z : Nat, (z : Int).tmod 4294967296 = ((z % 4294967296 : Nat) : Int) := fun z => by rw [Int.tmod_eq_emod_of_nonneg (by omega)]; omega
  have ad : ∀ y z : Nat, (y : Int) + (z : Int) = ((y + z : Nat) : Int) := fun y z => by omega
  rw [w0 P (by omega), td P, w0 (P / 4294967296) (by omega), w0 Q (by omega), ad Q (P / 4294967296), w0 (Q + P / 4294967296) (by omega)]
  generalize hU : Q + P / 4294967296 = U
  rw [td U, tm U, w0 (U / 4294967296) (by omega), w0 T (by omega), w0 R (by omega), ad R (U % 4294967296), w0 (R + U % 4294967296) (by omega), td (R + U % 4294967296)]
  generalize hV : (R + U % 4294967296) / 4294967296 = V
  rw [w0 V (by omega), ad T (U / 4294967296), w0 (T + U / 4294967296) (by omega), ad (T + U / 4294967296) V, w0 (T + U / 4294967296 + V) (by omega), IntWalk.wrap64_in _ ⟨by omega, by omega⟩]
  omega

set_option maxHeartbeats 400000 in
set_option maxRecDepth 100000 in
theorem below15_no (x n : Int) (hn : n < 1) (w : World) :
    Calls Tryd.prog 46 #[.int .u64 x, .int .i64 n] w fun e w' => e = .returned (.int .i64 0) ∧ w = w' := by
  go_enter Tryd.func46, Tryd.ntmps46
  go_wp2_with fail
  go_ret
  exact ⟨rfl, rfl⟩
set_option maxHeartbeats 400000 in
set_option maxRecDepth 100000 in
theorem below15 (x n : Nat) (hx : x < 18446744073709551616) (hn : 0 < n) (hm : n ≤ 9223372036854775807) (w : World) :
    Calls Tryd.prog 46 #[.int .u64 x, .int .i64 n] w fun e w' => e = .returned (.int .i64 (belowN x n)) ∧ w = w' := by
  have hlt := belowN_lt x n hx hn
  have h0 : 0 ≤ belowN x n := by unfold belowN; omega
  have h1 : belowN x n ≤ 9223372036854775807 := by unfold belowN; omega
  have hw : IntKind.u64.wrap (n : Int) = n := by rw [IntKind.wrap_u64]; omega
  have hmul := Tryd.bits_Mul64 x n hx (by omega)
  have HM := Lib.hid hmul
  clear hmul hlt
  go_enter Tryd.func46, Tryd.ntmps46
  go_wp2_with fail
  refine (calls_flop (HM.out _)).mono ?_
  rintro e w' ⟨rfl, rfl⟩
  go_wp2_with fail
  go_ret
  refine ⟨congrArg (fun z => Ending.returned (.int .i64 z)) (?_ : wrap64 _ = belowN x n), rfl⟩
  have e : (x : Int) * (n : Int) / 18446744073709551616 = belowN x n := by
    unfold belowN
    rw [← Int.natCast_mul]; omega
  rw [e]
  exact IntWalk.wrap64_in _ ⟨by omega, by omega⟩
set_option maxHeartbeats 400000 in
set_option maxRecDepth 100000 in
theorem below16_no (x n : Int) (hn : n < 1) (w : World) :
    Calls Tryd.prog 19 #[.int .u64 x, .int .i64 n] w fun e w' => e = .returned (.int .i64 0) ∧ w = w' := by
  go_enter Tryd.func19, Tryd.ntmps19
  go_wp2_with fail
  go_ret
  exact ⟨rfl, rfl⟩
set_option maxHeartbeats 400000 in
set_option maxRecDepth 100000 in
theorem below16 (x n : Nat) (hx : x < 18446744073709551616) (hn : 0 < n) (hm : n ≤ 9223372036854775807) (w : World) :
    Calls Tryd.prog 19 #[.int .u64 x, .int .i64 n] w fun e w' => e = .returned (.int .i64 (belowN x n)) ∧ w = w' := by
  have hw : IntKind.u64.wrap (n : Int) = n := by rw [IntKind.wrap_u64]; omega
  go_enter Tryd.func19, Tryd.ntmps19
  go_wp2_with fail
  go_ret
  exact ⟨congrArg (fun z => Ending.returned (.int .i64 z)) (halves x n hx hm), rfl⟩
end Go.Proofs.YtlcpkplipfcdaaaDoor
