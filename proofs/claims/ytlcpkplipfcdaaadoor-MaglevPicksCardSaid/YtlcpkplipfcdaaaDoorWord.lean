/- Reading words of eight bytes: the program's word. -/
import Derived.Test.YtlcpkplipfcdaaaDoorMath
namespace Go.Proofs.YtlcpkplipfcdaaaDoor
open Go.RowKit

set_option maxHeartbeats 400000 in
set_option maxRecDepth 100000 in
theorem word28 (s : ByteArray) (hs : 8 ≤ s.size) (hm : s.size ≤ 9223372036854775807) (w : World) :
    Calls Tryd.prog 85 #[.string s] w fun e w' => e = .returned (.int .u64 (leW (s.data.toList.take 8))) ∧ w = w' := by
  go_enter Tryd.func85, Tryd.ntmps85
  go_wp2
  go_loop [3, 5] (fun x i => ∃ k : Nat, k ≤ 8 ∧ i = .int .i64 k ∧ x = .int .u64 (leW (s.data.toList.take k))) (fun _ i => 8 - (intOf i).toNat)
  case atStart => exact ⟨0, by decide, rfl, rfl⟩
  case round =>
    obtain ⟨k, hk, rfl, rfl⟩ := hrel
    by_cases hlt : k < 8
    · go_wp2
      go_round
      case rel =>
        refine ⟨k + 1, by omega, by go_num, ?_⟩
        have hl : (s.data.toList.take k).length = k := by simp; omega
        have := or_step (s.data.toList.take k) s[k] (by omega)
        rw [hl] at this
        rw [this, take_snoc s k (by omega)]
      case measure => simp [intOf]; omega
    · obtain rfl : k = 8 := by omega
      go_wp2
      go_ret
      exact ⟨rfl, rfl⟩
set_option maxRecDepth 100000 in
theorem word_list (l : List UInt8) (hl : l.length = 8) (w : World) :
    Calls Tryd.prog 85 #[.string ⟨l.toArray⟩] w fun e w' => e = .returned (.int .u64 (leW l)) ∧ w' = w := by
  have := word28 ⟨l.toArray⟩ (by simp [ByteArray.size, hl]) (by simp [ByteArray.size, hl]) w
  refine this.mono fun e w' ⟨he, hw⟩ => ⟨?_, hw.symm⟩
  rw [he, List.take_of_length_le (by simp [hl])]
end Go.Proofs.YtlcpkplipfcdaaaDoor
