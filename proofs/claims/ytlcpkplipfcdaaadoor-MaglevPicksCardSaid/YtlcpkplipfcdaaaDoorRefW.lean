/- Reading words: the reference's Word. -/
import Derived.Test.YtlcpkplipfcdaaaDoorMath
namespace Go.Proofs.YtlcpkplipfcdaaaDoor
open Go.RowKit

set_option maxHeartbeats 400000 in
set_option maxRecDepth 100000 in
theorem word31 (l : List UInt8) (hl : l.length ≤ 8) (w : World) :
    Calls Tryd.prog 64 #[.string ⟨l.toArray⟩] w fun e w' => e = .returned (.int .u64 (leW l)) ∧ w' = w := by
  obtain ⟨s, hs⟩ : ∃ s : ByteArray, s = ⟨l.toArray⟩ := ⟨_, rfl⟩
  have hsz : s.size = l.length := by rw [hs]; simp [ByteArray.size]
  rw [← hs]
  have hs8 : s.size ≤ 8 := by omega
  have HS := Lib.hid hs
  have hget : ∀ j (h : j < s.size) (h' : j < l.length), s[j] = l[j] := by subst hs; intro j h h'; rfl
  have HG := Lib.hid hget
  have HZ := Lib.hid hsz
  clear hs hget hsz
  go_enter Tryd.func64, Tryd.ntmps64
  go_wp2_with fail
  go_loop [3, 4] (fun x i => ∃ k : Nat, k ≤ s.size ∧ i = .int .i64 ((k : Int) - 1) ∧ x = .int .u64 (leW (l.drop k))) (fun _ i => (intOf i + 1).toNat)
  case atStart => exact ⟨s.size, Nat.le_refl _, rfl, by rw [HZ.out, List.drop_length]; rfl⟩
  case round =>
    obtain ⟨k, hk, rfl, rfl⟩ := hrel
    cases k with
    | zero =>
      simp only [Int.ofNat_zero, Int.zero_sub, List.drop_zero]
      go_wp2_with fail
      go_ret
      exact ⟨rfl, rfl⟩
    | succ j =>
      simp only [show ((j + 1 : Nat) : Int) - 1 = (j : Int) by omega]
      go_wp2_with fail
      go_round
      case rel =>
        refine ⟨j, by omega, rfl, ?_⟩
        have hj : j < l.length := by have := HZ.out; omega
        have := leW_step l (by have := HZ.out; omega) j hj
        rw [← HG.out j (by omega) hj] at this
        rw [← this]
      case measure => simp [intOf]
end Go.Proofs.YtlcpkplipfcdaaaDoor
